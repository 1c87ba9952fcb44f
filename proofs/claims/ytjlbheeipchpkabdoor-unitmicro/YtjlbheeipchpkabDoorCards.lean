/-
  DERIVED. GIVEN WITH THE SEED: THE CARDS: each row of YtjlbheeipchpkabDoorRows.lean that lists a variable, with what it lists TIED to the program's text (the seventh form; the later family's looks); each row that meets fmt, with fmt's text TOLD by the authors' own Lean function (tested against real Go, not proved from fmt's source: count such statements apart). THE CARD IS WHAT COUNTS. Prove the row's statement (the work); the ties are given (YtjlbheeipchpkabDoorTie.lean); close each card by the builder's one call (the guide's Derived/Test/ToyasCard.lean, 'card_holds'). Laid BY PROGRAM, IN A SANDBOX (cutbox-door.mjs). By AI agents, Wed Nov 11 2026. No macro, syntax, notation, axiom, sorry.
-/
import Derived.Test.YtjlbheeipchpkabDoorRows
import GoSem.ClaimSeven
namespace Go.Proofs.YtjlbheeipchpkabDoor
namespace Rows

/-- THE TIED CARD OF 'workcellkeep.UnitMicro'. -/
def unitMicroCard : Claim7 := { stood := { row := unitMicroRow, standIns := [], harness := (true, "f697b069e42af03e31fa137701b349f0cd627b007ea5993708491f606cbb0eba"), looks := false }, kinds := [], alts := [], laidByText := true, laidKinds := [.data, .pinned], laidTests := true, laidLooks := .later }
def UnitMicroCardSaid : Prop := Claim7.holds Tryd.pinned (.plain (OpenSpec.ofChange unitMicroSpec)) unitMicroCard

/-- THE SECOND FORM's CARD OF 'workcellkeep.UnitMicro'. -/
def unitMicroUptoCard : Claim7 := { stood := { row := unitMicroUptoRow, standIns := [], harness := (true, "f697b069e42af03e31fa137701b349f0cd627b007ea5993708491f606cbb0eba"), looks := false }, kinds := [], alts := [], laidByText := true, laidKinds := [.data, .pinned], laidTests := true, laidLooks := .later }
def UnitMicroUptoCardSaid : Prop := Claim7.holds Tryd.pinned (.plain (OpenSpec.upto unitMicroSpec)) unitMicroUptoCard
end Rows
end Go.Proofs.YtjlbheeipchpkabDoor
