/-
  No cell of these rows narrows 'for every input' (looked for: loops, veiled, ifaces, maps, wideKeys, modest, calm, conditions, laid).
  DERIVED. THE GIVEN ROWS OF THIS SEAT. 6 by the template 'for every input the law returns true; each argument reads behind the call as it read before'; 0 by the template 'total and deterministic' (their statements: YthfchkclojnfmaaTotals.lean).
  GIVEN WITH THE SEED: the statements are not yours to turn. If you find one false, say at which input.
  Laid BY PROGRAM, IN A SANDBOX (cutbox-rows.mjs): the forced cells as the released guide's own fill.sh prints them over the translation 92921df725d1e74d… (all of the seat's roots in one cut). By AI agents, Wed Nov 11 2026. No macro, syntax, notation, axiom, sorry.
-/
import Derived.Test.YthfchkclojnfmaaChecked
import GoSem.Claim
import GoSem.ClaimJoined
import GoSem.ClaimMapViews
import Derived.JoinedTies
import Derived.KernelRfl
namespace Go.Proofs.Ythfchkclojnfmaa
/- THE CELL 'sum', in the pinned program and in every row, IS THE sha256 OF THE DUMP (.gsa) THAT YthfchkclojnfmaaProg.lean LOADS. Nothing in Lean hashes anything: it is a label: what it is worth is what the hold of that sum in a sandbox is worth. -/
noncomputable def Try.pinned : Pinned := { name := "ythfchkclojnfmaa", sum := "92921df725d1e74d61caabe33b4ef6e2ce381efae180aea3a3279cb315294ed5", checked := Try.checked }
namespace Rows
def none {H : Type} : Left H := { results := [], args := [] }

/-- 'workcelllaw.FluidForms': WHATEVER THE INPUT: true; the input reads as it did. -/
def fluidFormsSpec : ChangeSpec := { name := "fluidForms", fn := fun _ => fun
  | [d] => { results := [.lit (.bool true)], args := [d] }
  | _ => none }
def fluidFormsRow : OpenClaim := { program := "ythfchkclojnfmaa", sum := "92921df725d1e74d61caabe33b4ef6e2ce381efae180aea3a3279cb315294ed5", func := "workcell/workcelllaw.FluidForms", spec := "fluidForms", unfollowed := true, recurses := true, apart := false }
def FluidFormsSaid : Prop := fluidFormsRow.holds Try.pinned (OpenSpec.ofChange fluidFormsSpec)

/-- ITS FALSE NEIGHBOUR: 'it returns false'. Refute it at one input. -/
def fluidFormsWrong : ChangeSpec := { name := "fluidForms", fn := fun _ => fun
  | [d] => { results := [.lit (.bool false)], args := [d] }
  | _ => none }
def FluidFormsWrongFalsely : Prop := fluidFormsRow.holds Try.pinned (OpenSpec.ofChange fluidFormsWrong)

/-- 'workcelllaw.FluidMoves': WHATEVER THE INPUT: true; the input reads as it did. -/
def fluidMovesSpec : ChangeSpec := { name := "fluidMoves", fn := fun _ => fun
  | [d1, d2, d3] => { results := [.lit (.bool true)], args := [d1, d2, d3] }
  | _ => none }
def fluidMovesRow : OpenClaim := { program := "ythfchkclojnfmaa", sum := "92921df725d1e74d61caabe33b4ef6e2ce381efae180aea3a3279cb315294ed5", func := "workcell/workcelllaw.FluidMoves", spec := "fluidMoves", apart := false }
def FluidMovesSaid : Prop := fluidMovesRow.holds Try.pinned (OpenSpec.ofChange fluidMovesSpec)

/-- ITS FALSE NEIGHBOUR: 'it returns false'. Refute it at one input. -/
def fluidMovesWrong : ChangeSpec := { name := "fluidMoves", fn := fun _ => fun
  | [d1, d2, d3] => { results := [.lit (.bool false)], args := [d1, d2, d3] }
  | _ => none }
def FluidMovesWrongFalsely : Prop := fluidMovesRow.holds Try.pinned (OpenSpec.ofChange fluidMovesWrong)

/-- 'workcelllaw.FluidShares': WHATEVER THE INPUT: true; the input reads as it did. -/
def fluidSharesSpec : ChangeSpec := { name := "fluidShares", fn := fun _ => fun
  | [d1, d2, d3] => { results := [.lit (.bool true)], args := [d1, d2, d3] }
  | _ => none }
def fluidSharesRow : OpenClaim := { program := "ythfchkclojnfmaa", sum := "92921df725d1e74d61caabe33b4ef6e2ce381efae180aea3a3279cb315294ed5", func := "workcell/workcelllaw.FluidShares", spec := "fluidShares", apart := false }
def FluidSharesSaid : Prop := fluidSharesRow.holds Try.pinned (OpenSpec.ofChange fluidSharesSpec)

/-- ITS FALSE NEIGHBOUR: 'it returns false'. Refute it at one input. -/
def fluidSharesWrong : ChangeSpec := { name := "fluidShares", fn := fun _ => fun
  | [d1, d2, d3] => { results := [.lit (.bool false)], args := [d1, d2, d3] }
  | _ => none }
def FluidSharesWrongFalsely : Prop := fluidSharesRow.holds Try.pinned (OpenSpec.ofChange fluidSharesWrong)

/-- 'workcellkeep.FluidKeeps': WHATEVER THE INPUT: true; the input reads as it did. -/
def fluidKeepsSpec : ChangeSpec := { name := "fluidKeeps", fn := fun _ => fun
  | [d1, d2] => { results := [.lit (.bool true)], args := [d1, d2] }
  | _ => none }
def fluidKeepsRow : OpenClaim := { program := "ythfchkclojnfmaa", sum := "92921df725d1e74d61caabe33b4ef6e2ce381efae180aea3a3279cb315294ed5", func := "workcell/workcellkeep.FluidKeeps", spec := "fluidKeeps", apart := false }
def FluidKeepsSaid : Prop := fluidKeepsRow.holds Try.pinned (OpenSpec.ofChange fluidKeepsSpec)

/-- ITS FALSE NEIGHBOUR: 'it returns false'. Refute it at one input. -/
def fluidKeepsWrong : ChangeSpec := { name := "fluidKeeps", fn := fun _ => fun
  | [d1, d2] => { results := [.lit (.bool false)], args := [d1, d2] }
  | _ => none }
def FluidKeepsWrongFalsely : Prop := fluidKeepsRow.holds Try.pinned (OpenSpec.ofChange fluidKeepsWrong)

/-- 'workcellkeep.FluidSorts': WHATEVER THE INPUT: true; the input reads as it did. -/
def fluidSortsSpec : ChangeSpec := { name := "fluidSorts", fn := fun _ => fun
  | [d1, d2] => { results := [.lit (.bool true)], args := [d1, d2] }
  | _ => none }
def fluidSortsRow : OpenClaim := { program := "ythfchkclojnfmaa", sum := "92921df725d1e74d61caabe33b4ef6e2ce381efae180aea3a3279cb315294ed5", func := "workcell/workcellkeep.FluidSorts", spec := "fluidSorts", unfollowed := true, recurses := true, apart := false }
def FluidSortsSaid : Prop := fluidSortsRow.holds Try.pinned (OpenSpec.ofChange fluidSortsSpec)

/-- ITS FALSE NEIGHBOUR: 'it returns false'. Refute it at one input. -/
def fluidSortsWrong : ChangeSpec := { name := "fluidSorts", fn := fun _ => fun
  | [d1, d2] => { results := [.lit (.bool false)], args := [d1, d2] }
  | _ => none }
def FluidSortsWrongFalsely : Prop := fluidSortsRow.holds Try.pinned (OpenSpec.ofChange fluidSortsWrong)

/-- 'workcellkeep.FluidTwice': WHATEVER THE INPUT: true; the input reads as it did. -/
def fluidTwiceSpec : ChangeSpec := { name := "fluidTwice", fn := fun _ => fun
  | [d1, d2, d3] => { results := [.lit (.bool true)], args := [d1, d2, d3] }
  | _ => none }
def fluidTwiceRow : OpenClaim := { program := "ythfchkclojnfmaa", sum := "92921df725d1e74d61caabe33b4ef6e2ce381efae180aea3a3279cb315294ed5", func := "workcell/workcellkeep.FluidTwice", spec := "fluidTwice", apart := false }
def FluidTwiceSaid : Prop := fluidTwiceRow.holds Try.pinned (OpenSpec.ofChange fluidTwiceSpec)

/-- ITS FALSE NEIGHBOUR: 'it returns false'. Refute it at one input. -/
def fluidTwiceWrong : ChangeSpec := { name := "fluidTwice", fn := fun _ => fun
  | [d1, d2, d3] => { results := [.lit (.bool false)], args := [d1, d2, d3] }
  | _ => none }
def FluidTwiceWrongFalsely : Prop := fluidTwiceRow.holds Try.pinned (OpenSpec.ofChange fluidTwiceWrong)

/- THE SECOND FORM. 'bulk': how many values and letters a reading holds, each counted each time it is reached (what is shared counts as often as it is met; a slice's spare places count too). A statement '..UptoSaid' is the law's where the arguments, and the package variables that the reading takes, are together of bulk at most 1048576: NARROWER than '..Said'. Prove '..Said' where nothing that the law and all that it calls make is longer than what came in: it says more and counts as full. Else prove '..UptoSaid'. A law counts once. -/
mutual
def uptoBulk {H : Type} : DataW H → Nat
  | .lit (.string bytes) => bytes.length + 1
  | .lit _ => 1
  | .nil => 1
  | .ptr d => uptoBulk d + 1
  | .slice elems spare => uptoBulkAll elems + uptoBulkAll spare + 1
  | .agg parts => uptoBulkAll parts + 1
  | .iface _ d => uptoBulk d + 1
  | .map entries => uptoBulkEntries entries + 1
  | .held _ => 1
def uptoBulkAll {H : Type} : List (DataW H) → Nat
  | [] => 0
  | d :: r => uptoBulk d + uptoBulkAll r
def uptoBulkEntries {H : Type} : List (Lit × DataW H) → Nat
  | [] => 0
  | x :: r => uptoBulkEntry x + uptoBulkEntries r
def uptoBulkEntry {H : Type} : Lit × DataW H → Nat
  | (.string bytes, d) => bytes.length + uptoBulk d + 1
  | (_, d) => uptoBulk d + 1
 end
def uptoSmall : (H : Type) → List (DataW H) → Bool := fun _ ds => decide (uptoBulkAll ds ≤ 1048576)
def OpenSpec.upto (s : _root_.Go.ChangeSpec) : _root_.Go.OpenSpec := { _root_.Go.OpenSpec.ofChange s with cond := some uptoSmall }

/-- 'workcelllaw.FluidForms', WHERE WHAT IT READS IS OF BULK AT MOST 1048576: true; the input reads as it did. -/
def fluidFormsUptoRow : OpenClaim := { program := "ythfchkclojnfmaa", sum := "92921df725d1e74d61caabe33b4ef6e2ce381efae180aea3a3279cb315294ed5", func := "workcell/workcelllaw.FluidForms", spec := "fluidForms", unfollowed := true, recurses := true, apart := false, narrowed := true }
def FluidFormsUptoSaid : Prop := fluidFormsUptoRow.holds Try.pinned (OpenSpec.upto fluidFormsSpec)

/-- 'workcelllaw.FluidMoves', WHERE WHAT IT READS IS OF BULK AT MOST 1048576: true; the input reads as it did. -/
def fluidMovesUptoRow : OpenClaim := { program := "ythfchkclojnfmaa", sum := "92921df725d1e74d61caabe33b4ef6e2ce381efae180aea3a3279cb315294ed5", func := "workcell/workcelllaw.FluidMoves", spec := "fluidMoves", apart := false, narrowed := true }
def FluidMovesUptoSaid : Prop := fluidMovesUptoRow.holds Try.pinned (OpenSpec.upto fluidMovesSpec)

/-- 'workcelllaw.FluidShares', WHERE WHAT IT READS IS OF BULK AT MOST 1048576: true; the input reads as it did. -/
def fluidSharesUptoRow : OpenClaim := { program := "ythfchkclojnfmaa", sum := "92921df725d1e74d61caabe33b4ef6e2ce381efae180aea3a3279cb315294ed5", func := "workcell/workcelllaw.FluidShares", spec := "fluidShares", apart := false, narrowed := true }
def FluidSharesUptoSaid : Prop := fluidSharesUptoRow.holds Try.pinned (OpenSpec.upto fluidSharesSpec)

/-- 'workcellkeep.FluidKeeps', WHERE WHAT IT READS IS OF BULK AT MOST 1048576: true; the input reads as it did. -/
def fluidKeepsUptoRow : OpenClaim := { program := "ythfchkclojnfmaa", sum := "92921df725d1e74d61caabe33b4ef6e2ce381efae180aea3a3279cb315294ed5", func := "workcell/workcellkeep.FluidKeeps", spec := "fluidKeeps", apart := false, narrowed := true }
def FluidKeepsUptoSaid : Prop := fluidKeepsUptoRow.holds Try.pinned (OpenSpec.upto fluidKeepsSpec)

/-- 'workcellkeep.FluidSorts', WHERE WHAT IT READS IS OF BULK AT MOST 1048576: true; the input reads as it did. -/
def fluidSortsUptoRow : OpenClaim := { program := "ythfchkclojnfmaa", sum := "92921df725d1e74d61caabe33b4ef6e2ce381efae180aea3a3279cb315294ed5", func := "workcell/workcellkeep.FluidSorts", spec := "fluidSorts", unfollowed := true, recurses := true, apart := false, narrowed := true }
def FluidSortsUptoSaid : Prop := fluidSortsUptoRow.holds Try.pinned (OpenSpec.upto fluidSortsSpec)

/-- 'workcellkeep.FluidTwice', WHERE WHAT IT READS IS OF BULK AT MOST 1048576: true; the input reads as it did. -/
def fluidTwiceUptoRow : OpenClaim := { program := "ythfchkclojnfmaa", sum := "92921df725d1e74d61caabe33b4ef6e2ce381efae180aea3a3279cb315294ed5", func := "workcell/workcellkeep.FluidTwice", spec := "fluidTwice", apart := false, narrowed := true }
def FluidTwiceUptoSaid : Prop := fluidTwiceUptoRow.holds Try.pinned (OpenSpec.upto fluidTwiceSpec)

end Rows
end Go.Proofs.Ythfchkclojnfmaa
