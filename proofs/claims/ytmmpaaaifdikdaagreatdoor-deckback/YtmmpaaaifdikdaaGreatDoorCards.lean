/-
  DERIVED. GIVEN WITH THE SEED: THE CARDS: each row of YtmmpaaaifdikdaaGreatDoorRows.lean that lists a variable, with what it lists TIED to the program's text (the seventh form; the later family's looks); each row that meets fmt, with fmt's text TOLD by the authors' own Lean function (tested against real Go, not proved from fmt's source: count such statements apart). THE CARD IS WHAT COUNTS. Prove the row's statement (the work); the ties are given (YtmmpaaaifdikdaaGreatDoorTie.lean); close each card by the builder's one call (the guide's Derived/Test/ToyasCard.lean, 'card_holds'). Laid BY PROGRAM, IN A SANDBOX (cutbox-door.mjs). By AI agents, Wed Nov 11 2026. No macro, syntax, notation, axiom, sorry.
-/
import Derived.Test.YtmmpaaaifdikdaaGreatDoorRows
import GoSem.ClaimSeven
namespace Go.Proofs.YtmmpaaaifdikdaaGreatDoor
namespace Rows

/-- THE TIED CARD OF 'workcelllaw.DeckTexts'. -/
def deckTextsCard : Claim7 := { stood := { row := deckTextsRow, standIns := [], harness := (true, "7c528a41f2c5da35dcdc5d9c99d53e4277c4ed9ef9db73d76a517884350b3bdd"), looks := true }, kinds := [], alts := [], laidByText := true, laidKinds := [.data, .data, .data, .data, .sentinel, .sentinel, .data, .pinned], laidTests := true, laidLooks := .later }
def DeckTextsCardSaid : Prop := Claim7.holds Tryz.pinned (.plain (OpenSpec.ofChange deckTextsSpec)) deckTextsCard

/-- THE TIED CARD OF 'workcellkeep.DeckBack'. -/
def deckBackCard : Claim7 := { stood := { row := deckBackRow, standIns := [], harness := (true, "7c528a41f2c5da35dcdc5d9c99d53e4277c4ed9ef9db73d76a517884350b3bdd"), looks := true }, kinds := [], alts := [], laidByText := true, laidKinds := [.data, .data, .data, .data, .sentinel, .sentinel, .data, .pinned], laidTests := true, laidLooks := .later }
def DeckBackCardSaid : Prop := Claim7.holds Tryz.pinned (.plain (OpenSpec.ofChange deckBackSpec)) deckBackCard

/-- THE TIED CARD OF 'workcellkeep.DeckFewer'. -/
def deckFewerCard : Claim7 := { stood := { row := deckFewerRow, standIns := [], harness := (true, "7c528a41f2c5da35dcdc5d9c99d53e4277c4ed9ef9db73d76a517884350b3bdd"), looks := true }, kinds := [], alts := [], laidByText := true, laidKinds := [.data, .data, .data, .data, .sentinel, .sentinel, .data, .pinned], laidTests := true, laidLooks := .later }
def DeckFewerCardSaid : Prop := Claim7.holds Tryz.pinned (.plain (OpenSpec.ofChange deckFewerSpec)) deckFewerCard

/-- THE SECOND FORM's CARD OF 'workcelllaw.DeckTexts'. -/
def deckTextsUptoCard : Claim7 := { stood := { row := deckTextsUptoRow, standIns := [], harness := (true, "7c528a41f2c5da35dcdc5d9c99d53e4277c4ed9ef9db73d76a517884350b3bdd"), looks := true }, kinds := [], alts := [], laidByText := true, laidKinds := [.data, .data, .data, .data, .sentinel, .sentinel, .data, .pinned], laidTests := true, laidLooks := .later }
def DeckTextsUptoCardSaid : Prop := Claim7.holds Tryz.pinned (.plain (OpenSpec.upto deckTextsSpec)) deckTextsUptoCard

/-- THE SECOND FORM's CARD OF 'workcellkeep.DeckBack'. -/
def deckBackUptoCard : Claim7 := { stood := { row := deckBackUptoRow, standIns := [], harness := (true, "7c528a41f2c5da35dcdc5d9c99d53e4277c4ed9ef9db73d76a517884350b3bdd"), looks := true }, kinds := [], alts := [], laidByText := true, laidKinds := [.data, .data, .data, .data, .sentinel, .sentinel, .data, .pinned], laidTests := true, laidLooks := .later }
def DeckBackUptoCardSaid : Prop := Claim7.holds Tryz.pinned (.plain (OpenSpec.upto deckBackSpec)) deckBackUptoCard

/-- THE SECOND FORM's CARD OF 'workcellkeep.DeckFewer'. -/
def deckFewerUptoCard : Claim7 := { stood := { row := deckFewerUptoRow, standIns := [], harness := (true, "7c528a41f2c5da35dcdc5d9c99d53e4277c4ed9ef9db73d76a517884350b3bdd"), looks := true }, kinds := [], alts := [], laidByText := true, laidKinds := [.data, .data, .data, .data, .sentinel, .sentinel, .data, .pinned], laidTests := true, laidLooks := .later }
def DeckFewerUptoCardSaid : Prop := Claim7.holds Tryz.pinned (.plain (OpenSpec.upto deckFewerSpec)) deckFewerUptoCard
end Rows
end Go.Proofs.YtmmpaaaifdikdaaGreatDoor
