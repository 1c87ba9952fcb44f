/-
  No cell of these rows narrows 'for every input' (looked for: loops, veiled, ifaces, maps, wideKeys, modest, calm, conditions, laid).
  DERIVED. THE GIVEN ROWS OF THIS SEAT. 5 by the template 'for every input the law returns true; each argument reads behind the call as it read before'; 0 by the template 'total and deterministic' (their statements: YtgelbndbkmedlaaTotals.lean).
  GIVEN WITH THE SEED: the statements are not yours to turn. If you find one false, say at which input.
  Laid BY PROGRAM, IN A SANDBOX (cutbox-rows.mjs): the forced cells as the released guide's own fill.sh prints them over the translation 61684da7b13689a7… (all of the seat's roots in one cut). By AI agents, Wed Nov 11 2026. No macro, syntax, notation, axiom, sorry.
-/
import Derived.Test.YtgelbndbkmedlaaChecked
import GoSem.Claim
import GoSem.ClaimJoined
import GoSem.ClaimMapViews
import Derived.JoinedTies
import Derived.KernelRfl
namespace Go.Proofs.Ytgelbndbkmedlaa
/- THE CELL 'sum', in the pinned program and in every row, IS THE sha256 OF THE DUMP (.gsa) THAT YtgelbndbkmedlaaProg.lean LOADS. Nothing in Lean hashes anything: it is a label: what it is worth is what the hold of that sum in a sandbox is worth. -/
noncomputable def Try.pinned : Pinned := { name := "ytgelbndbkmedlaa", sum := "61684da7b13689a79c5e32ae18825ca5096c26a94c17cdd439e59c9e243dd257", checked := Try.checked }
namespace Rows
def none {H : Type} : Left H := { results := [], args := [] }

/-- 'workcelllaw.PathPlans': WHATEVER THE INPUT: true; the input reads as it did. -/
def pathPlansSpec : ChangeSpec := { name := "pathPlans", fn := fun _ => fun
  | [d1, d2, d3, d4] => { results := [.lit (.bool true)], args := [d1, d2, d3, d4] }
  | _ => none }
def pathPlansRow : OpenClaim := { program := "ytgelbndbkmedlaa", sum := "61684da7b13689a79c5e32ae18825ca5096c26a94c17cdd439e59c9e243dd257", func := "workcell/workcelllaw.PathPlans", spec := "pathPlans", unfollowed := true, recurses := true, apart := false }
def PathPlansSaid : Prop := pathPlansRow.holds Try.pinned (OpenSpec.ofChange pathPlansSpec)

/-- ITS FALSE NEIGHBOUR: 'it returns false'. Refute it at one input. -/
def pathPlansWrong : ChangeSpec := { name := "pathPlans", fn := fun _ => fun
  | [d1, d2, d3, d4] => { results := [.lit (.bool false)], args := [d1, d2, d3, d4] }
  | _ => none }
def PathPlansWrongFalsely : Prop := pathPlansRow.holds Try.pinned (OpenSpec.ofChange pathPlansWrong)

/-- 'workcelllaw.PathChecks': WHATEVER THE INPUT: true; the input reads as it did. -/
def pathChecksSpec : ChangeSpec := { name := "pathChecks", fn := fun _ => fun
  | [d1, d2, d3, d4] => { results := [.lit (.bool true)], args := [d1, d2, d3, d4] }
  | _ => none }
def pathChecksRow : OpenClaim := { program := "ytgelbndbkmedlaa", sum := "61684da7b13689a79c5e32ae18825ca5096c26a94c17cdd439e59c9e243dd257", func := "workcell/workcelllaw.PathChecks", spec := "pathChecks", unfollowed := true, recurses := true, apart := false }
def PathChecksSaid : Prop := pathChecksRow.holds Try.pinned (OpenSpec.ofChange pathChecksSpec)

/-- ITS FALSE NEIGHBOUR: 'it returns false'. Refute it at one input. -/
def pathChecksWrong : ChangeSpec := { name := "pathChecks", fn := fun _ => fun
  | [d1, d2, d3, d4] => { results := [.lit (.bool false)], args := [d1, d2, d3, d4] }
  | _ => none }
def PathChecksWrongFalsely : Prop := pathChecksRow.holds Try.pinned (OpenSpec.ofChange pathChecksWrong)

/-- 'workcellkeep.PathFree': WHATEVER THE INPUT: true; the input reads as it did. -/
def pathFreeSpec : ChangeSpec := { name := "pathFree", fn := fun _ => fun
  | [d1, d2, d3, d4] => { results := [.lit (.bool true)], args := [d1, d2, d3, d4] }
  | _ => none }
def pathFreeRow : OpenClaim := { program := "ytgelbndbkmedlaa", sum := "61684da7b13689a79c5e32ae18825ca5096c26a94c17cdd439e59c9e243dd257", func := "workcell/workcellkeep.PathFree", spec := "pathFree", unfollowed := true, recurses := true, apart := false }
def PathFreeSaid : Prop := pathFreeRow.holds Try.pinned (OpenSpec.ofChange pathFreeSpec)

/-- ITS FALSE NEIGHBOUR: 'it returns false'. Refute it at one input. -/
def pathFreeWrong : ChangeSpec := { name := "pathFree", fn := fun _ => fun
  | [d1, d2, d3, d4] => { results := [.lit (.bool false)], args := [d1, d2, d3, d4] }
  | _ => none }
def PathFreeWrongFalsely : Prop := pathFreeRow.holds Try.pinned (OpenSpec.ofChange pathFreeWrong)

/-- 'workcellkeep.PathJoins': WHATEVER THE INPUT: true; the input reads as it did. -/
def pathJoinsSpec : ChangeSpec := { name := "pathJoins", fn := fun _ => fun
  | [d1, d2, d3, d4, d5] => { results := [.lit (.bool true)], args := [d1, d2, d3, d4, d5] }
  | _ => none }
def pathJoinsRow : OpenClaim := { program := "ytgelbndbkmedlaa", sum := "61684da7b13689a79c5e32ae18825ca5096c26a94c17cdd439e59c9e243dd257", func := "workcell/workcellkeep.PathJoins", spec := "pathJoins", unfollowed := true, recurses := true, apart := false }
def PathJoinsSaid : Prop := pathJoinsRow.holds Try.pinned (OpenSpec.ofChange pathJoinsSpec)

/-- ITS FALSE NEIGHBOUR: 'it returns false'. Refute it at one input. -/
def pathJoinsWrong : ChangeSpec := { name := "pathJoins", fn := fun _ => fun
  | [d1, d2, d3, d4, d5] => { results := [.lit (.bool false)], args := [d1, d2, d3, d4, d5] }
  | _ => none }
def PathJoinsWrongFalsely : Prop := pathJoinsRow.holds Try.pinned (OpenSpec.ofChange pathJoinsWrong)

/-- 'workcellkeep.PathLifts': WHATEVER THE INPUT: true; the input reads as it did. -/
def pathLiftsSpec : ChangeSpec := { name := "pathLifts", fn := fun _ => fun
  | [d1, d2, d3, d4, d5] => { results := [.lit (.bool true)], args := [d1, d2, d3, d4, d5] }
  | _ => none }
def pathLiftsRow : OpenClaim := { program := "ytgelbndbkmedlaa", sum := "61684da7b13689a79c5e32ae18825ca5096c26a94c17cdd439e59c9e243dd257", func := "workcell/workcellkeep.PathLifts", spec := "pathLifts", unfollowed := true, recurses := true, apart := false }
def PathLiftsSaid : Prop := pathLiftsRow.holds Try.pinned (OpenSpec.ofChange pathLiftsSpec)

/-- ITS FALSE NEIGHBOUR: 'it returns false'. Refute it at one input. -/
def pathLiftsWrong : ChangeSpec := { name := "pathLifts", fn := fun _ => fun
  | [d1, d2, d3, d4, d5] => { results := [.lit (.bool false)], args := [d1, d2, d3, d4, d5] }
  | _ => none }
def PathLiftsWrongFalsely : Prop := pathLiftsRow.holds Try.pinned (OpenSpec.ofChange pathLiftsWrong)

/- THE SECOND FORM. 'bulk': how many values and letters a reading holds, each counted each time it is reached (what is shared counts as often as it is met; a slice's spare places count too). A statement '..UptoSaid' is the law's where the arguments, and the package variables that the reading takes, are together of bulk at most 1048576: NARROWER than '..Said'. Prove '..Said' where nothing that the law and all that it calls make is longer than what came in: it says more and counts as full. Else prove '..UptoSaid'. A law counts once. -/
mutual
def uptoBulk {H : Type} : DataW H → Nat
  | .lit (.string bytes) => bytes.length + 1
  | .lit _ => 1
  | .nil => 1
  | .ptr d => uptoBulk d + 1
  | .slice elems spare => uptoBulkAll elems + uptoBulkAll spare + 1
  | .agg parts => uptoBulkAll parts + 1
  | .iface _ d => uptoBulk d + 1
  | .map entries => uptoBulkEntries entries + 1
  | .held _ => 1
def uptoBulkAll {H : Type} : List (DataW H) → Nat
  | [] => 0
  | d :: r => uptoBulk d + uptoBulkAll r
def uptoBulkEntries {H : Type} : List (Lit × DataW H) → Nat
  | [] => 0
  | x :: r => uptoBulkEntry x + uptoBulkEntries r
def uptoBulkEntry {H : Type} : Lit × DataW H → Nat
  | (.string bytes, d) => bytes.length + uptoBulk d + 1
  | (_, d) => uptoBulk d + 1
 end
def uptoSmall : (H : Type) → List (DataW H) → Bool := fun _ ds => decide (uptoBulkAll ds ≤ 1048576)
def OpenSpec.upto (s : _root_.Go.ChangeSpec) : _root_.Go.OpenSpec := { _root_.Go.OpenSpec.ofChange s with cond := some uptoSmall }

/-- 'workcelllaw.PathPlans', WHERE WHAT IT READS IS OF BULK AT MOST 1048576: true; the input reads as it did. -/
def pathPlansUptoRow : OpenClaim := { program := "ytgelbndbkmedlaa", sum := "61684da7b13689a79c5e32ae18825ca5096c26a94c17cdd439e59c9e243dd257", func := "workcell/workcelllaw.PathPlans", spec := "pathPlans", unfollowed := true, recurses := true, apart := false, narrowed := true }
def PathPlansUptoSaid : Prop := pathPlansUptoRow.holds Try.pinned (OpenSpec.upto pathPlansSpec)

/-- 'workcelllaw.PathChecks', WHERE WHAT IT READS IS OF BULK AT MOST 1048576: true; the input reads as it did. -/
def pathChecksUptoRow : OpenClaim := { program := "ytgelbndbkmedlaa", sum := "61684da7b13689a79c5e32ae18825ca5096c26a94c17cdd439e59c9e243dd257", func := "workcell/workcelllaw.PathChecks", spec := "pathChecks", unfollowed := true, recurses := true, apart := false, narrowed := true }
def PathChecksUptoSaid : Prop := pathChecksUptoRow.holds Try.pinned (OpenSpec.upto pathChecksSpec)

/-- 'workcellkeep.PathFree', WHERE WHAT IT READS IS OF BULK AT MOST 1048576: true; the input reads as it did. -/
def pathFreeUptoRow : OpenClaim := { program := "ytgelbndbkmedlaa", sum := "61684da7b13689a79c5e32ae18825ca5096c26a94c17cdd439e59c9e243dd257", func := "workcell/workcellkeep.PathFree", spec := "pathFree", unfollowed := true, recurses := true, apart := false, narrowed := true }
def PathFreeUptoSaid : Prop := pathFreeUptoRow.holds Try.pinned (OpenSpec.upto pathFreeSpec)

/-- 'workcellkeep.PathJoins', WHERE WHAT IT READS IS OF BULK AT MOST 1048576: true; the input reads as it did. -/
def pathJoinsUptoRow : OpenClaim := { program := "ytgelbndbkmedlaa", sum := "61684da7b13689a79c5e32ae18825ca5096c26a94c17cdd439e59c9e243dd257", func := "workcell/workcellkeep.PathJoins", spec := "pathJoins", unfollowed := true, recurses := true, apart := false, narrowed := true }
def PathJoinsUptoSaid : Prop := pathJoinsUptoRow.holds Try.pinned (OpenSpec.upto pathJoinsSpec)

/-- 'workcellkeep.PathLifts', WHERE WHAT IT READS IS OF BULK AT MOST 1048576: true; the input reads as it did. -/
def pathLiftsUptoRow : OpenClaim := { program := "ytgelbndbkmedlaa", sum := "61684da7b13689a79c5e32ae18825ca5096c26a94c17cdd439e59c9e243dd257", func := "workcell/workcellkeep.PathLifts", spec := "pathLifts", unfollowed := true, recurses := true, apart := false, narrowed := true }
def PathLiftsUptoSaid : Prop := pathLiftsUptoRow.holds Try.pinned (OpenSpec.upto pathLiftsSpec)

end Rows
end Go.Proofs.Ytgelbndbkmedlaa
