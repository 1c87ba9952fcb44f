/-
  DERIVED. GIVEN WITH THE SEED: THE CARDS: each row of YtcajifelbldjnaaGreatDoorRows.lean that lists a variable, with what it lists TIED to the program's text (the seventh form; the later family's looks); each row that meets fmt, with fmt's text TOLD by the authors' own Lean function (tested against real Go, not proved from fmt's source: count such statements apart). THE CARD IS WHAT COUNTS. Prove the row's statement (the work); the ties are given (YtcajifelbldjnaaGreatDoorTie.lean); close each card by the builder's one call (the guide's Derived/Test/ToyasCard.lean, 'card_holds'). Laid BY PROGRAM, IN A SANDBOX (cutbox-door.mjs). By AI agents, Wed Nov 11 2026. No macro, syntax, notation, axiom, sorry.
-/
import Derived.Test.YtcajifelbldjnaaGreatDoorRows
import GoSem.ClaimSeven
namespace Go.Proofs.YtcajifelbldjnaaGreatDoor
namespace Rows

/-- THE TIED CARD OF 'workcelllaw.CellCompiles'. -/
def cellCompilesCard : Claim7 := { stood := { row := cellCompilesRow, standIns := [], harness := (true, "34ca53f848e4ef2621fb9c99bacf0921621bb0d64ccc3014ec23783ef90ab635"), looks := true }, kinds := [], alts := [], laidByText := true, laidKinds := [.data, .sentinel, .sentinel, .sentinel, .sentinel, .sentinel, .sentinel, .sentinel, .sentinel], laidTests := true, laidLooks := .later }
def CellCompilesCardSaid : Prop := Claim7.holds Tryz.pinned (.plain (OpenSpec.ofChange cellCompilesSpec)) cellCompilesCard

/-- THE TIED CARD OF 'workcellkeep.CellBack'. -/
def cellBackCard : Claim7 := { stood := { row := cellBackRow, standIns := [], harness := (true, "34ca53f848e4ef2621fb9c99bacf0921621bb0d64ccc3014ec23783ef90ab635"), looks := true }, kinds := [], alts := [], laidByText := true, laidKinds := [.data, .sentinel, .sentinel, .sentinel, .sentinel, .sentinel, .sentinel, .sentinel, .sentinel], laidTests := true, laidLooks := .later }
def CellBackCardSaid : Prop := Claim7.holds Tryz.pinned (.plain (OpenSpec.ofChange cellBackSpec)) cellBackCard

/-- THE TIED CARD OF 'workcellkeep.CellCodes'. -/
def cellCodesCard : Claim7 := { stood := { row := cellCodesRow, standIns := [], harness := (true, "34ca53f848e4ef2621fb9c99bacf0921621bb0d64ccc3014ec23783ef90ab635"), looks := true }, kinds := [], alts := [], laidByText := true, laidKinds := [.data, .data, .data, .data, .sentinel, .sentinel, .data, .pinned], laidTests := true, laidLooks := .later }
def CellCodesCardSaid : Prop := Claim7.holds Tryz.pinned (.plain (OpenSpec.ofChange cellCodesSpec)) cellCodesCard

/-- THE SECOND FORM's CARD OF 'workcelllaw.CellCompiles'. -/
def cellCompilesUptoCard : Claim7 := { stood := { row := cellCompilesUptoRow, standIns := [], harness := (true, "34ca53f848e4ef2621fb9c99bacf0921621bb0d64ccc3014ec23783ef90ab635"), looks := true }, kinds := [], alts := [], laidByText := true, laidKinds := [.data, .sentinel, .sentinel, .sentinel, .sentinel, .sentinel, .sentinel, .sentinel, .sentinel], laidTests := true, laidLooks := .later }
def CellCompilesUptoCardSaid : Prop := Claim7.holds Tryz.pinned (.plain (OpenSpec.upto cellCompilesSpec)) cellCompilesUptoCard

/-- THE SECOND FORM's CARD OF 'workcellkeep.CellBack'. -/
def cellBackUptoCard : Claim7 := { stood := { row := cellBackUptoRow, standIns := [], harness := (true, "34ca53f848e4ef2621fb9c99bacf0921621bb0d64ccc3014ec23783ef90ab635"), looks := true }, kinds := [], alts := [], laidByText := true, laidKinds := [.data, .sentinel, .sentinel, .sentinel, .sentinel, .sentinel, .sentinel, .sentinel, .sentinel], laidTests := true, laidLooks := .later }
def CellBackUptoCardSaid : Prop := Claim7.holds Tryz.pinned (.plain (OpenSpec.upto cellBackSpec)) cellBackUptoCard

/-- THE SECOND FORM's CARD OF 'workcellkeep.CellCodes'. -/
def cellCodesUptoCard : Claim7 := { stood := { row := cellCodesUptoRow, standIns := [], harness := (true, "34ca53f848e4ef2621fb9c99bacf0921621bb0d64ccc3014ec23783ef90ab635"), looks := true }, kinds := [], alts := [], laidByText := true, laidKinds := [.data, .data, .data, .data, .sentinel, .sentinel, .data, .pinned], laidTests := true, laidLooks := .later }
def CellCodesUptoCardSaid : Prop := Claim7.holds Tryz.pinned (.plain (OpenSpec.upto cellCodesSpec)) cellCodesUptoCard
end Rows
end Go.Proofs.YtcajifelbldjnaaGreatDoor
