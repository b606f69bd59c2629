/-
  DERIVED. GIVEN WITH THE SEED: THE CARDS: each row of YtjpnkmhmipendaaDoorRows.lean that lists a variable, with what it lists TIED to the program's text (the seventh form; the later family's looks); each row that meets fmt, with fmt's text TOLD by the authors' own Lean function (tested against real Go, not proved from fmt's source: count such statements apart). THE CARD IS WHAT COUNTS. Prove the row's statement (the work); the ties are given (YtjpnkmhmipendaaDoorTie.lean); close each card by the builder's one call (the guide's Derived/Test/ToyasCard.lean, 'card_holds'). Laid BY PROGRAM, IN A SANDBOX (cutbox-door.mjs). By AI agents, Wed Nov 11 2026. No macro, syntax, notation, axiom, sorry.
-/
import Derived.Test.YtjpnkmhmipendaaDoorRows
import GoSem.ClaimSeven
namespace Go.Proofs.YtjpnkmhmipendaaDoor
namespace Rows

/-- THE TIED CARD OF 'laws.FnExactDiskOk'. -/
def fnExactDiskOkCard : Claim7 := { stood := { row := fnExactDiskOkRow, standIns := [], harness := (true, "b233c5a0c467ffd82c72bdaace9f49da1e880b791ddfa0fb5dd8423072656d2e"), looks := true }, kinds := [], alts := [], laidByText := true, laidKinds := [.sentinel], laidTests := true, laidLooks := .later }
def FnExactDiskOkCardSaid : Prop := Claim7.holds Tryd.pinned (.plain (OpenSpec.ofChange fnExactDiskOkSpec)) fnExactDiskOkCard

/-- THE TIED CARD OF 'laws.FnExactReadSector'. -/
def fnExactReadSectorCard : Claim7 := { stood := { row := fnExactReadSectorRow, standIns := [], harness := (true, "b233c5a0c467ffd82c72bdaace9f49da1e880b791ddfa0fb5dd8423072656d2e"), looks := true }, kinds := [], alts := [], laidByText := true, laidKinds := [.sentinel], laidTests := true, laidLooks := .later }
def FnExactReadSectorCardSaid : Prop := Claim7.holds Tryd.pinned (.plain (OpenSpec.ofChange fnExactReadSectorSpec)) fnExactReadSectorCard

/-- THE TIED CARD OF 'laws.FnExactSync'. -/
def fnExactSyncCard : Claim7 := { stood := { row := fnExactSyncRow, standIns := [], harness := (true, "b233c5a0c467ffd82c72bdaace9f49da1e880b791ddfa0fb5dd8423072656d2e"), looks := true }, kinds := [], alts := [], laidByText := true, laidKinds := [.sentinel], laidTests := true, laidLooks := .later }
def FnExactSyncCardSaid : Prop := Claim7.holds Tryd.pinned (.plain (OpenSpec.ofChange fnExactSyncSpec)) fnExactSyncCard

/-- THE TIED CARD OF 'laws.FnExactWriteSector'. -/
def fnExactWriteSectorCard : Claim7 := { stood := { row := fnExactWriteSectorRow, standIns := [], harness := (true, "b233c5a0c467ffd82c72bdaace9f49da1e880b791ddfa0fb5dd8423072656d2e"), looks := true }, kinds := [], alts := [], laidByText := true, laidKinds := [.sentinel], laidTests := true, laidLooks := .later }
def FnExactWriteSectorCardSaid : Prop := Claim7.holds Tryd.pinned (.plain (OpenSpec.ofChange fnExactWriteSectorSpec)) fnExactWriteSectorCard

/-- THE TIED CARD OF 'laws.FnExactCrash'. -/
def fnExactCrashCard : Claim7 := { stood := { row := fnExactCrashRow, standIns := [], harness := (true, "b233c5a0c467ffd82c72bdaace9f49da1e880b791ddfa0fb5dd8423072656d2e"), looks := true }, kinds := [], alts := [], laidByText := true, laidKinds := [.sentinel], laidTests := true, laidLooks := .later }
def FnExactCrashCardSaid : Prop := Claim7.holds Tryd.pinned (.plain (OpenSpec.ofChange fnExactCrashSpec)) fnExactCrashCard

/-- THE SECOND FORM's CARD OF 'laws.FnExactDiskOk'. -/
def fnExactDiskOkUptoCard : Claim7 := { stood := { row := fnExactDiskOkUptoRow, standIns := [], harness := (true, "b233c5a0c467ffd82c72bdaace9f49da1e880b791ddfa0fb5dd8423072656d2e"), looks := true }, kinds := [], alts := [], laidByText := true, laidKinds := [.sentinel], laidTests := true, laidLooks := .later }
def FnExactDiskOkUptoCardSaid : Prop := Claim7.holds Tryd.pinned (.plain (OpenSpec.upto fnExactDiskOkSpec)) fnExactDiskOkUptoCard

/-- THE SECOND FORM's CARD OF 'laws.FnExactReadSector'. -/
def fnExactReadSectorUptoCard : Claim7 := { stood := { row := fnExactReadSectorUptoRow, standIns := [], harness := (true, "b233c5a0c467ffd82c72bdaace9f49da1e880b791ddfa0fb5dd8423072656d2e"), looks := true }, kinds := [], alts := [], laidByText := true, laidKinds := [.sentinel], laidTests := true, laidLooks := .later }
def FnExactReadSectorUptoCardSaid : Prop := Claim7.holds Tryd.pinned (.plain (OpenSpec.upto fnExactReadSectorSpec)) fnExactReadSectorUptoCard

/-- THE SECOND FORM's CARD OF 'laws.FnExactSync'. -/
def fnExactSyncUptoCard : Claim7 := { stood := { row := fnExactSyncUptoRow, standIns := [], harness := (true, "b233c5a0c467ffd82c72bdaace9f49da1e880b791ddfa0fb5dd8423072656d2e"), looks := true }, kinds := [], alts := [], laidByText := true, laidKinds := [.sentinel], laidTests := true, laidLooks := .later }
def FnExactSyncUptoCardSaid : Prop := Claim7.holds Tryd.pinned (.plain (OpenSpec.upto fnExactSyncSpec)) fnExactSyncUptoCard

/-- THE SECOND FORM's CARD OF 'laws.FnExactWriteSector'. -/
def fnExactWriteSectorUptoCard : Claim7 := { stood := { row := fnExactWriteSectorUptoRow, standIns := [], harness := (true, "b233c5a0c467ffd82c72bdaace9f49da1e880b791ddfa0fb5dd8423072656d2e"), looks := true }, kinds := [], alts := [], laidByText := true, laidKinds := [.sentinel], laidTests := true, laidLooks := .later }
def FnExactWriteSectorUptoCardSaid : Prop := Claim7.holds Tryd.pinned (.plain (OpenSpec.upto fnExactWriteSectorSpec)) fnExactWriteSectorUptoCard

/-- THE SECOND FORM's CARD OF 'laws.FnExactCrash'. -/
def fnExactCrashUptoCard : Claim7 := { stood := { row := fnExactCrashUptoRow, standIns := [], harness := (true, "b233c5a0c467ffd82c72bdaace9f49da1e880b791ddfa0fb5dd8423072656d2e"), looks := true }, kinds := [], alts := [], laidByText := true, laidKinds := [.sentinel], laidTests := true, laidLooks := .later }
def FnExactCrashUptoCardSaid : Prop := Claim7.holds Tryd.pinned (.plain (OpenSpec.upto fnExactCrashSpec)) fnExactCrashUptoCard
end Rows
end Go.Proofs.YtjpnkmhmipendaaDoor
