/-
  DERIVED. GIVEN WITH THE SEED: THE CARDS: each row of YthmdfcepmbgccaaDoorRows.lean that lists a variable, with what it lists TIED to the program's text (the seventh form; the later family's looks); each row that meets fmt, with fmt's text TOLD by the authors' own Lean function (tested against real Go, not proved from fmt's source: count such statements apart). THE CARD IS WHAT COUNTS. Prove the row's statement (the work); the ties are given (YthmdfcepmbgccaaDoorTie.lean); close each card by the builder's one call (the guide's Derived/Test/ToyasCard.lean, 'card_holds'). Laid BY PROGRAM, IN A SANDBOX (cutbox-door.mjs). By AI agents, Wed Nov 11 2026. No macro, syntax, notation, axiom, sorry.
-/
import Derived.Test.YthmdfcepmbgccaaDoorRows
import GoSem.ClaimSeven
namespace Go.Proofs.YthmdfcepmbgccaaDoor
namespace Rows

/-- THE TIED CARD OF 'laws.FnExactLogAdd'. -/
def fnExactLogAddCard : Claim7 := { stood := { row := fnExactLogAddRow, standIns := [], harness := (true, "33b60780cf560c387a59f6250215348b754fc26228c6e65f4d38d630fb1c73ae"), looks := true }, kinds := [], alts := [], laidByText := true, laidKinds := [.sentinel], laidTests := true, laidLooks := .later }
def FnExactLogAddCardSaid : Prop := Claim7.holds Tryd.pinned (.plain (OpenSpec.ofChange fnExactLogAddSpec)) fnExactLogAddCard

/-- THE TIED CARD OF 'laws.FnExactLogOpen'. -/
def fnExactLogOpenCard : Claim7 := { stood := { row := fnExactLogOpenRow, standIns := [], harness := (true, "33b60780cf560c387a59f6250215348b754fc26228c6e65f4d38d630fb1c73ae"), looks := true }, kinds := [], alts := [], laidByText := true, laidKinds := [.sentinel], laidTests := true, laidLooks := .later }
def FnExactLogOpenCardSaid : Prop := Claim7.holds Tryd.pinned (.plain (OpenSpec.ofChange fnExactLogOpenSpec)) fnExactLogOpenCard

/-- THE SECOND FORM's CARD OF 'laws.FnExactLogAdd'. -/
def fnExactLogAddUptoCard : Claim7 := { stood := { row := fnExactLogAddUptoRow, standIns := [], harness := (true, "33b60780cf560c387a59f6250215348b754fc26228c6e65f4d38d630fb1c73ae"), looks := true }, kinds := [], alts := [], laidByText := true, laidKinds := [.sentinel], laidTests := true, laidLooks := .later }
def FnExactLogAddUptoCardSaid : Prop := Claim7.holds Tryd.pinned (.plain (OpenSpec.upto fnExactLogAddSpec)) fnExactLogAddUptoCard

/-- THE SECOND FORM's CARD OF 'laws.FnExactLogOpen'. -/
def fnExactLogOpenUptoCard : Claim7 := { stood := { row := fnExactLogOpenUptoRow, standIns := [], harness := (true, "33b60780cf560c387a59f6250215348b754fc26228c6e65f4d38d630fb1c73ae"), looks := true }, kinds := [], alts := [], laidByText := true, laidKinds := [.sentinel], laidTests := true, laidLooks := .later }
def FnExactLogOpenUptoCardSaid : Prop := Claim7.holds Tryd.pinned (.plain (OpenSpec.upto fnExactLogOpenSpec)) fnExactLogOpenUptoCard
end Rows
end Go.Proofs.YthmdfcepmbgccaaDoor
