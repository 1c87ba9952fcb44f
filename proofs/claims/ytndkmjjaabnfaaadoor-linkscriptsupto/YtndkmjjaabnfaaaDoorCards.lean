/-
  DERIVED. GIVEN WITH THE SEED: THE CARDS: each row of YtndkmjjaabnfaaaDoorRows.lean that lists a variable, with what it lists TIED to the program's text (the seventh form; the later family's looks); each row that meets fmt, with fmt's text TOLD by the authors' own Lean function (tested against real Go, not proved from fmt's source: count such statements apart). THE CARD IS WHAT COUNTS. Prove the row's statement (the work); the ties are given (YtndkmjjaabnfaaaDoorTie.lean); close each card by the builder's one call (the guide's Derived/Test/ToyasCard.lean, 'card_holds'). Laid BY PROGRAM, IN A SANDBOX (cutbox-door.mjs). By AI agents, Wed Nov 11 2026. No macro, syntax, notation, axiom, sorry.
-/
import Derived.Test.YtndkmjjaabnfaaaDoorRows
import GoSem.ClaimSeven
namespace Go.Proofs.YtndkmjjaabnfaaaDoor
namespace Rows

/-- THE TIED CARD OF 'workcelllaw.LinkScripts'. -/
def linkScriptsCard : Claim7 := { stood := { row := linkScriptsRow, standIns := [], harness := (true, "9b5ef0f78eec73b5ef3bc7d6d9e3060283de4a92d58f7fa94831d4759c047abf"), looks := true }, kinds := [], alts := [], laidByText := true, laidKinds := [.data, .data, .data, .data, .sentinel, .sentinel, .pinned], laidTests := true, laidLooks := .later }
def LinkScriptsCardSaid : Prop := Claim7.holds Tryd.pinned (.plain (OpenSpec.ofChange linkScriptsSpec)) linkScriptsCard

/-- THE TIED CARD OF 'workcellkeep.LinkTakes'. -/
def linkTakesCard : Claim7 := { stood := { row := linkTakesRow, standIns := [], harness := (true, "9b5ef0f78eec73b5ef3bc7d6d9e3060283de4a92d58f7fa94831d4759c047abf"), looks := true }, kinds := [], alts := [], goes := true, laidByText := true, laidKinds := [.data, .data, .data, .data, .sentinel, .sentinel, .data, .pinned], laidTests := true, laidLooks := .later }
def LinkTakesCardSaid : Prop := Claim7.holds Tryd.pinned (.plain (OpenSpec.ofChange linkTakesSpec)) linkTakesCard

/-- THE TIED CARD OF 'workcellkeep.LinkMore'. -/
def linkMoreCard : Claim7 := { stood := { row := linkMoreRow, standIns := [], harness := (true, "9b5ef0f78eec73b5ef3bc7d6d9e3060283de4a92d58f7fa94831d4759c047abf"), looks := true }, kinds := [], alts := [], goes := true, laidByText := true, laidKinds := [.data, .data, .data, .data, .sentinel, .sentinel, .data, .pinned], laidTests := true, laidLooks := .later }
def LinkMoreCardSaid : Prop := Claim7.holds Tryd.pinned (.plain (OpenSpec.ofChange linkMoreSpec)) linkMoreCard

/-- THE SECOND FORM's CARD OF 'workcelllaw.LinkScripts'. -/
def linkScriptsUptoCard : Claim7 := { stood := { row := linkScriptsUptoRow, standIns := [], harness := (true, "9b5ef0f78eec73b5ef3bc7d6d9e3060283de4a92d58f7fa94831d4759c047abf"), looks := true }, kinds := [], alts := [], laidByText := true, laidKinds := [.data, .data, .data, .data, .sentinel, .sentinel, .pinned], laidTests := true, laidLooks := .later }
def LinkScriptsUptoCardSaid : Prop := Claim7.holds Tryd.pinned (.plain (OpenSpec.upto linkScriptsSpec)) linkScriptsUptoCard

/-- THE SECOND FORM's CARD OF 'workcellkeep.LinkTakes'. -/
def linkTakesUptoCard : Claim7 := { stood := { row := linkTakesUptoRow, standIns := [], harness := (true, "9b5ef0f78eec73b5ef3bc7d6d9e3060283de4a92d58f7fa94831d4759c047abf"), looks := true }, kinds := [], alts := [], goes := true, laidByText := true, laidKinds := [.data, .data, .data, .data, .sentinel, .sentinel, .data, .pinned], laidTests := true, laidLooks := .later }
def LinkTakesUptoCardSaid : Prop := Claim7.holds Tryd.pinned (.plain (OpenSpec.upto linkTakesSpec)) linkTakesUptoCard

/-- THE SECOND FORM's CARD OF 'workcellkeep.LinkMore'. -/
def linkMoreUptoCard : Claim7 := { stood := { row := linkMoreUptoRow, standIns := [], harness := (true, "9b5ef0f78eec73b5ef3bc7d6d9e3060283de4a92d58f7fa94831d4759c047abf"), looks := true }, kinds := [], alts := [], goes := true, laidByText := true, laidKinds := [.data, .data, .data, .data, .sentinel, .sentinel, .data, .pinned], laidTests := true, laidLooks := .later }
def LinkMoreUptoCardSaid : Prop := Claim7.holds Tryd.pinned (.plain (OpenSpec.upto linkMoreSpec)) linkMoreUptoCard
end Rows
end Go.Proofs.YtndkmjjaabnfaaaDoor
