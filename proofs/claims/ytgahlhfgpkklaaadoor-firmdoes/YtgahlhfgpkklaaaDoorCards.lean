/-
  DERIVED. GIVEN WITH THE SEED: THE CARDS: each row of YtgahlhfgpkklaaaDoorRows.lean that lists a variable, with what it lists TIED to the program's text (the seventh form; the later family's looks); each row that meets fmt, with fmt's text TOLD by the authors' own Lean function (tested against real Go, not proved from fmt's source: count such statements apart). THE CARD IS WHAT COUNTS. Prove the row's statement (the work); the ties are given (YtgahlhfgpkklaaaDoorTie.lean); close each card by the builder's one call (the guide's Derived/Test/ToyasCard.lean, 'card_holds'). Laid BY PROGRAM, IN A SANDBOX (cutbox-door.mjs). By AI agents, Wed Nov 11 2026. No macro, syntax, notation, axiom, sorry.
-/
import Derived.Test.YtgahlhfgpkklaaaDoorRows
import GoSem.ClaimSeven
namespace Go.Proofs.YtgahlhfgpkklaaaDoor
namespace Rows

/-- THE TIED CARD OF 'workcelllaw.FirmDoes'. -/
def firmDoesCard : Claim7 := { stood := { row := firmDoesRow, standIns := [], harness := (true, "f6f5100fd303727f0640b74b42839152bd2873dea6131999b366a3ab457f83ac"), looks := true }, kinds := [], alts := [], laidByText := true, laidKinds := [.data, .sentinel, .sentinel, .sentinel, .sentinel, .sentinel, .sentinel, .sentinel, .sentinel], laidTests := true, laidLooks := .later }
def FirmDoesCardSaid : Prop := Claim7.holds Tryd.pinned (.plain (OpenSpec.ofChange firmDoesSpec)) firmDoesCard

/-- THE TIED CARD OF 'workcelllaw.FirmRuns'. -/
def firmRunsCard : Claim7 := { stood := { row := firmRunsRow, standIns := [], harness := (true, "f6f5100fd303727f0640b74b42839152bd2873dea6131999b366a3ab457f83ac"), looks := true }, kinds := [], alts := [], laidByText := true, laidKinds := [.data, .sentinel, .sentinel, .sentinel, .sentinel, .sentinel, .sentinel, .sentinel, .sentinel], laidTests := true, laidLooks := .later }
def FirmRunsCardSaid : Prop := Claim7.holds Tryd.pinned (.plain (OpenSpec.ofChange firmRunsSpec)) firmRunsCard

/-- THE TIED CARD OF 'workcellkeep.FirmKeeps'. -/
def firmKeepsCard : Claim7 := { stood := { row := firmKeepsRow, standIns := [], harness := (true, "f6f5100fd303727f0640b74b42839152bd2873dea6131999b366a3ab457f83ac"), looks := true }, kinds := [], alts := [], laidByText := true, laidKinds := [.data, .sentinel, .sentinel, .sentinel, .sentinel, .sentinel, .sentinel, .sentinel, .sentinel], laidTests := true, laidLooks := .later }
def FirmKeepsCardSaid : Prop := Claim7.holds Tryd.pinned (.plain (OpenSpec.ofChange firmKeepsSpec)) firmKeepsCard

/-- THE TIED CARD OF 'workcellkeep.FirmGoesOn'. -/
def firmGoesOnCard : Claim7 := { stood := { row := firmGoesOnRow, standIns := [], harness := (true, "f6f5100fd303727f0640b74b42839152bd2873dea6131999b366a3ab457f83ac"), looks := true }, kinds := [], alts := [], laidByText := true, laidKinds := [.data, .sentinel, .sentinel, .sentinel, .sentinel, .sentinel, .sentinel, .sentinel, .sentinel], laidTests := true, laidLooks := .later }
def FirmGoesOnCardSaid : Prop := Claim7.holds Tryd.pinned (.plain (OpenSpec.ofChange firmGoesOnSpec)) firmGoesOnCard

/-- THE SECOND FORM's CARD OF 'workcelllaw.FirmDoes'. -/
def firmDoesUptoCard : Claim7 := { stood := { row := firmDoesUptoRow, standIns := [], harness := (true, "f6f5100fd303727f0640b74b42839152bd2873dea6131999b366a3ab457f83ac"), looks := true }, kinds := [], alts := [], laidByText := true, laidKinds := [.data, .sentinel, .sentinel, .sentinel, .sentinel, .sentinel, .sentinel, .sentinel, .sentinel], laidTests := true, laidLooks := .later }
def FirmDoesUptoCardSaid : Prop := Claim7.holds Tryd.pinned (.plain (OpenSpec.upto firmDoesSpec)) firmDoesUptoCard

/-- THE SECOND FORM's CARD OF 'workcelllaw.FirmRuns'. -/
def firmRunsUptoCard : Claim7 := { stood := { row := firmRunsUptoRow, standIns := [], harness := (true, "f6f5100fd303727f0640b74b42839152bd2873dea6131999b366a3ab457f83ac"), looks := true }, kinds := [], alts := [], laidByText := true, laidKinds := [.data, .sentinel, .sentinel, .sentinel, .sentinel, .sentinel, .sentinel, .sentinel, .sentinel], laidTests := true, laidLooks := .later }
def FirmRunsUptoCardSaid : Prop := Claim7.holds Tryd.pinned (.plain (OpenSpec.upto firmRunsSpec)) firmRunsUptoCard

/-- THE SECOND FORM's CARD OF 'workcellkeep.FirmKeeps'. -/
def firmKeepsUptoCard : Claim7 := { stood := { row := firmKeepsUptoRow, standIns := [], harness := (true, "f6f5100fd303727f0640b74b42839152bd2873dea6131999b366a3ab457f83ac"), looks := true }, kinds := [], alts := [], laidByText := true, laidKinds := [.data, .sentinel, .sentinel, .sentinel, .sentinel, .sentinel, .sentinel, .sentinel, .sentinel], laidTests := true, laidLooks := .later }
def FirmKeepsUptoCardSaid : Prop := Claim7.holds Tryd.pinned (.plain (OpenSpec.upto firmKeepsSpec)) firmKeepsUptoCard

/-- THE SECOND FORM's CARD OF 'workcellkeep.FirmGoesOn'. -/
def firmGoesOnUptoCard : Claim7 := { stood := { row := firmGoesOnUptoRow, standIns := [], harness := (true, "f6f5100fd303727f0640b74b42839152bd2873dea6131999b366a3ab457f83ac"), looks := true }, kinds := [], alts := [], laidByText := true, laidKinds := [.data, .sentinel, .sentinel, .sentinel, .sentinel, .sentinel, .sentinel, .sentinel, .sentinel], laidTests := true, laidLooks := .later }
def FirmGoesOnUptoCardSaid : Prop := Claim7.holds Tryd.pinned (.plain (OpenSpec.upto firmGoesOnSpec)) firmGoesOnUptoCard
end Rows
end Go.Proofs.YtgahlhfgpkklaaaDoor
