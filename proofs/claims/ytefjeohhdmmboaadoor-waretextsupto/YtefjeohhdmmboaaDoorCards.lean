/-
  DERIVED. GIVEN WITH THE SEED: THE CARDS: each row of YtefjeohhdmmboaaDoorRows.lean that lists a variable, with what it lists TIED to the program's text (the seventh form; the later family's looks); each row that meets fmt, with fmt's text TOLD by the authors' own Lean function (tested against real Go, not proved from fmt's source: count such statements apart). THE CARD IS WHAT COUNTS. Prove the row's statement (the work); the ties are given (YtefjeohhdmmboaaDoorTie.lean); close each card by the builder's one call (the guide's Derived/Test/ToyasCard.lean, 'card_holds'). Laid BY PROGRAM, IN A SANDBOX (cutbox-door.mjs). By AI agents, Wed Nov 11 2026. No macro, syntax, notation, axiom, sorry.
-/
import Derived.Test.YtefjeohhdmmboaaDoorRows
import GoSem.ClaimSeven
namespace Go.Proofs.YtefjeohhdmmboaaDoor
namespace Rows

/-- THE TIED CARD OF 'workcelllaw.WareTexts'. -/
def wareTextsCard : Claim7 := { stood := { row := wareTextsRow, standIns := [], harness := (true, "c0e3a90d3980c7fa16666f0826cc6136568a75b34836b38354f8361d2181b1fb"), looks := false }, kinds := [], alts := [], laidByText := true, laidKinds := [.data, .data, .data, .data, .data, .pinned], laidTests := true, laidLooks := .later }
def WareTextsCardSaid : Prop := Claim7.holds Tryd.pinned (.plain (OpenSpec.ofChange wareTextsSpec)) wareTextsCard

/-- THE TIED CARD OF 'workcelllaw.WareSpots'. -/
def wareSpotsCard : Claim7 := { stood := { row := wareSpotsRow, standIns := [], harness := (true, "c0e3a90d3980c7fa16666f0826cc6136568a75b34836b38354f8361d2181b1fb"), looks := false }, kinds := [], alts := [], laidByText := true, laidKinds := [.data, .data, .data], laidTests := true, laidLooks := .later }
def WareSpotsCardSaid : Prop := Claim7.holds Tryd.pinned (.plain (OpenSpec.ofChange wareSpotsSpec)) wareSpotsCard

/-- THE TIED CARD OF 'workcellkeep.WareBack'. -/
def wareBackCard : Claim7 := { stood := { row := wareBackRow, standIns := [], harness := (true, "c0e3a90d3980c7fa16666f0826cc6136568a75b34836b38354f8361d2181b1fb"), looks := false }, kinds := [], alts := [], laidByText := true, laidKinds := [.data, .data, .data, .data, .data, .pinned], laidTests := true, laidLooks := .later }
def WareBackCardSaid : Prop := Claim7.holds Tryd.pinned (.plain (OpenSpec.ofChange wareBackSpec)) wareBackCard

/-- THE TIED CARD OF 'workcellkeep.WareNames'. -/
def wareNamesCard : Claim7 := { stood := { row := wareNamesRow, standIns := [], harness := (true, "c0e3a90d3980c7fa16666f0826cc6136568a75b34836b38354f8361d2181b1fb"), looks := false }, kinds := [], alts := [], laidByText := true, laidKinds := [.data, .data, .data], laidTests := true, laidLooks := .later }
def WareNamesCardSaid : Prop := Claim7.holds Tryd.pinned (.plain (OpenSpec.ofChange wareNamesSpec)) wareNamesCard

/-- THE SECOND FORM's CARD OF 'workcelllaw.WareTexts'. -/
def wareTextsUptoCard : Claim7 := { stood := { row := wareTextsUptoRow, standIns := [], harness := (true, "c0e3a90d3980c7fa16666f0826cc6136568a75b34836b38354f8361d2181b1fb"), looks := false }, kinds := [], alts := [], laidByText := true, laidKinds := [.data, .data, .data, .data, .data, .pinned], laidTests := true, laidLooks := .later }
def WareTextsUptoCardSaid : Prop := Claim7.holds Tryd.pinned (.plain (OpenSpec.upto wareTextsSpec)) wareTextsUptoCard

/-- THE SECOND FORM's CARD OF 'workcelllaw.WareSpots'. -/
def wareSpotsUptoCard : Claim7 := { stood := { row := wareSpotsUptoRow, standIns := [], harness := (true, "c0e3a90d3980c7fa16666f0826cc6136568a75b34836b38354f8361d2181b1fb"), looks := false }, kinds := [], alts := [], laidByText := true, laidKinds := [.data, .data, .data], laidTests := true, laidLooks := .later }
def WareSpotsUptoCardSaid : Prop := Claim7.holds Tryd.pinned (.plain (OpenSpec.upto wareSpotsSpec)) wareSpotsUptoCard

/-- THE SECOND FORM's CARD OF 'workcellkeep.WareBack'. -/
def wareBackUptoCard : Claim7 := { stood := { row := wareBackUptoRow, standIns := [], harness := (true, "c0e3a90d3980c7fa16666f0826cc6136568a75b34836b38354f8361d2181b1fb"), looks := false }, kinds := [], alts := [], laidByText := true, laidKinds := [.data, .data, .data, .data, .data, .pinned], laidTests := true, laidLooks := .later }
def WareBackUptoCardSaid : Prop := Claim7.holds Tryd.pinned (.plain (OpenSpec.upto wareBackSpec)) wareBackUptoCard

/-- THE SECOND FORM's CARD OF 'workcellkeep.WareNames'. -/
def wareNamesUptoCard : Claim7 := { stood := { row := wareNamesUptoRow, standIns := [], harness := (true, "c0e3a90d3980c7fa16666f0826cc6136568a75b34836b38354f8361d2181b1fb"), looks := false }, kinds := [], alts := [], laidByText := true, laidKinds := [.data, .data, .data], laidTests := true, laidLooks := .later }
def WareNamesUptoCardSaid : Prop := Claim7.holds Tryd.pinned (.plain (OpenSpec.upto wareNamesSpec)) wareNamesUptoCard
end Rows
end Go.Proofs.YtefjeohhdmmboaaDoor
