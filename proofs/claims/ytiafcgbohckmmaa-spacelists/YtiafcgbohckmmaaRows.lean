/-
  No cell of these rows narrows 'for every input' (looked for: loops, veiled, ifaces, maps, wideKeys, modest, calm, conditions, laid).
  DERIVED. THE GIVEN ROWS OF THIS SEAT. 6 by the template 'for every input the law returns true; each argument reads behind the call as it read before'; 0 by the template 'total and deterministic' (their statements: YtiafcgbohckmmaaTotals.lean).
  GIVEN WITH THE SEED: the statements are not yours to turn. If you find one false, say at which input.
  Laid BY PROGRAM, IN A SANDBOX (cutbox-rows.mjs): the forced cells as the released guide's own fill.sh prints them over the translation 7d2ffe51a54aa1c3… (all of the seat's roots in one cut). By AI agents, Wed Nov 11 2026. No macro, syntax, notation, axiom, sorry.
-/
import Derived.Test.YtiafcgbohckmmaaChecked
import GoSem.Claim
import GoSem.ClaimJoined
import GoSem.ClaimMapViews
import Derived.JoinedTies
import Derived.KernelRfl
namespace Go.Proofs.Ytiafcgbohckmmaa
/- THE CELL 'sum', in the pinned program and in every row, IS THE sha256 OF THE DUMP (.gsa) THAT YtiafcgbohckmmaaProg.lean LOADS. Nothing in Lean hashes anything: it is a label: what it is worth is what the hold of that sum in a sandbox is worth. -/
noncomputable def Try.pinned : Pinned := { name := "ytiafcgbohckmmaa", sum := "7d2ffe51a54aa1c3823ad745c916a5b06e860a07dc25991266c9d99a73890bff", checked := Try.checked }
namespace Rows
def none {H : Type} : Left H := { results := [], args := [] }

/-- 'workcelllaw.SpaceMoves': WHATEVER THE INPUT: true; the input reads as it did. -/
def spaceMovesSpec : ChangeSpec := { name := "spaceMoves", fn := fun _ => fun
  | [d1, d2, d3] => { results := [.lit (.bool true)], args := [d1, d2, d3] }
  | _ => none }
def spaceMovesRow : OpenClaim := { program := "ytiafcgbohckmmaa", sum := "7d2ffe51a54aa1c3823ad745c916a5b06e860a07dc25991266c9d99a73890bff", func := "workcell/workcelllaw.SpaceMoves", spec := "spaceMoves", unfollowed := true, recurses := true, apart := false }
def SpaceMovesSaid : Prop := spaceMovesRow.holds Try.pinned (OpenSpec.ofChange spaceMovesSpec)

/-- ITS FALSE NEIGHBOUR: 'it returns false'. Refute it at one input. -/
def spaceMovesWrong : ChangeSpec := { name := "spaceMoves", fn := fun _ => fun
  | [d1, d2, d3] => { results := [.lit (.bool false)], args := [d1, d2, d3] }
  | _ => none }
def SpaceMovesWrongFalsely : Prop := spaceMovesRow.holds Try.pinned (OpenSpec.ofChange spaceMovesWrong)

/-- 'workcelllaw.SpaceLists': WHATEVER THE INPUT: true; the input reads as it did. -/
def spaceListsSpec : ChangeSpec := { name := "spaceLists", fn := fun _ => fun
  | [d1, d2, d3] => { results := [.lit (.bool true)], args := [d1, d2, d3] }
  | _ => none }
def spaceListsRow : OpenClaim := { program := "ytiafcgbohckmmaa", sum := "7d2ffe51a54aa1c3823ad745c916a5b06e860a07dc25991266c9d99a73890bff", func := "workcell/workcelllaw.SpaceLists", spec := "spaceLists", unfollowed := true, recurses := true, apart := false }
def SpaceListsSaid : Prop := spaceListsRow.holds Try.pinned (OpenSpec.ofChange spaceListsSpec)

/-- ITS FALSE NEIGHBOUR: 'it returns false'. Refute it at one input. -/
def spaceListsWrong : ChangeSpec := { name := "spaceLists", fn := fun _ => fun
  | [d1, d2, d3] => { results := [.lit (.bool false)], args := [d1, d2, d3] }
  | _ => none }
def SpaceListsWrongFalsely : Prop := spaceListsRow.holds Try.pinned (OpenSpec.ofChange spaceListsWrong)

/-- 'workcellkeep.SpaceMet': WHATEVER THE INPUT: true; the input reads as it did. -/
def spaceMetSpec : ChangeSpec := { name := "spaceMet", fn := fun _ => fun
  | [d1, d2, d3, d4] => { results := [.lit (.bool true)], args := [d1, d2, d3, d4] }
  | _ => none }
def spaceMetRow : OpenClaim := { program := "ytiafcgbohckmmaa", sum := "7d2ffe51a54aa1c3823ad745c916a5b06e860a07dc25991266c9d99a73890bff", func := "workcell/workcellkeep.SpaceMet", spec := "spaceMet", unfollowed := true, recurses := true, apart := false }
def SpaceMetSaid : Prop := spaceMetRow.holds Try.pinned (OpenSpec.ofChange spaceMetSpec)

/-- ITS FALSE NEIGHBOUR: 'it returns false'. Refute it at one input. -/
def spaceMetWrong : ChangeSpec := { name := "spaceMet", fn := fun _ => fun
  | [d1, d2, d3, d4] => { results := [.lit (.bool false)], args := [d1, d2, d3, d4] }
  | _ => none }
def SpaceMetWrongFalsely : Prop := spaceMetRow.holds Try.pinned (OpenSpec.ofChange spaceMetWrong)

/-- 'workcellkeep.SpaceSweeps': WHATEVER THE INPUT: true; the input reads as it did. -/
def spaceSweepsSpec : ChangeSpec := { name := "spaceSweeps", fn := fun _ => fun
  | [d1, d2, d3, d4, d5] => { results := [.lit (.bool true)], args := [d1, d2, d3, d4, d5] }
  | _ => none }
def spaceSweepsRow : OpenClaim := { program := "ytiafcgbohckmmaa", sum := "7d2ffe51a54aa1c3823ad745c916a5b06e860a07dc25991266c9d99a73890bff", func := "workcell/workcellkeep.SpaceSweeps", spec := "spaceSweeps", unfollowed := true, recurses := true, apart := false }
def SpaceSweepsSaid : Prop := spaceSweepsRow.holds Try.pinned (OpenSpec.ofChange spaceSweepsSpec)

/-- ITS FALSE NEIGHBOUR: 'it returns false'. Refute it at one input. -/
def spaceSweepsWrong : ChangeSpec := { name := "spaceSweeps", fn := fun _ => fun
  | [d1, d2, d3, d4, d5] => { results := [.lit (.bool false)], args := [d1, d2, d3, d4, d5] }
  | _ => none }
def SpaceSweepsWrongFalsely : Prop := spaceSweepsRow.holds Try.pinned (OpenSpec.ofChange spaceSweepsWrong)

/-- 'workcellkeep.SpaceSafe': WHATEVER THE INPUT: true; the input reads as it did. -/
def spaceSafeSpec : ChangeSpec := { name := "spaceSafe", fn := fun _ => fun
  | [d1, d2, d3] => { results := [.lit (.bool true)], args := [d1, d2, d3] }
  | _ => none }
def spaceSafeRow : OpenClaim := { program := "ytiafcgbohckmmaa", sum := "7d2ffe51a54aa1c3823ad745c916a5b06e860a07dc25991266c9d99a73890bff", func := "workcell/workcellkeep.SpaceSafe", spec := "spaceSafe", unfollowed := true, recurses := true, apart := false }
def SpaceSafeSaid : Prop := spaceSafeRow.holds Try.pinned (OpenSpec.ofChange spaceSafeSpec)

/-- ITS FALSE NEIGHBOUR: 'it returns false'. Refute it at one input. -/
def spaceSafeWrong : ChangeSpec := { name := "spaceSafe", fn := fun _ => fun
  | [d1, d2, d3] => { results := [.lit (.bool false)], args := [d1, d2, d3] }
  | _ => none }
def SpaceSafeWrongFalsely : Prop := spaceSafeRow.holds Try.pinned (OpenSpec.ofChange spaceSafeWrong)

/-- 'workcellkeep.SpaceHulls': WHATEVER THE INPUT: true; the input reads as it did. -/
def spaceHullsSpec : ChangeSpec := { name := "spaceHulls", fn := fun _ => fun
  | [d1, d2] => { results := [.lit (.bool true)], args := [d1, d2] }
  | _ => none }
def spaceHullsRow : OpenClaim := { program := "ytiafcgbohckmmaa", sum := "7d2ffe51a54aa1c3823ad745c916a5b06e860a07dc25991266c9d99a73890bff", func := "workcell/workcellkeep.SpaceHulls", spec := "spaceHulls", unfollowed := true, recurses := true, apart := false }
def SpaceHullsSaid : Prop := spaceHullsRow.holds Try.pinned (OpenSpec.ofChange spaceHullsSpec)

/-- ITS FALSE NEIGHBOUR: 'it returns false'. Refute it at one input. -/
def spaceHullsWrong : ChangeSpec := { name := "spaceHulls", fn := fun _ => fun
  | [d1, d2] => { results := [.lit (.bool false)], args := [d1, d2] }
  | _ => none }
def SpaceHullsWrongFalsely : Prop := spaceHullsRow.holds Try.pinned (OpenSpec.ofChange spaceHullsWrong)

/- THE SECOND FORM. 'bulk': how many values and letters a reading holds, each counted each time it is reached (what is shared counts as often as it is met; a slice's spare places count too). A statement '..UptoSaid' is the law's where the arguments, and the package variables that the reading takes, are together of bulk at most 1048576: NARROWER than '..Said'. Prove '..Said' where nothing that the law and all that it calls make is longer than what came in: it says more and counts as full. Else prove '..UptoSaid'. A law counts once. -/
mutual
def uptoBulk {H : Type} : DataW H → Nat
  | .lit (.string bytes) => bytes.length + 1
  | .lit _ => 1
  | .nil => 1
  | .ptr d => uptoBulk d + 1
  | .slice elems spare => uptoBulkAll elems + uptoBulkAll spare + 1
  | .agg parts => uptoBulkAll parts + 1
  | .iface _ d => uptoBulk d + 1
  | .map entries => uptoBulkEntries entries + 1
  | .held _ => 1
def uptoBulkAll {H : Type} : List (DataW H) → Nat
  | [] => 0
  | d :: r => uptoBulk d + uptoBulkAll r
def uptoBulkEntries {H : Type} : List (Lit × DataW H) → Nat
  | [] => 0
  | x :: r => uptoBulkEntry x + uptoBulkEntries r
def uptoBulkEntry {H : Type} : Lit × DataW H → Nat
  | (.string bytes, d) => bytes.length + uptoBulk d + 1
  | (_, d) => uptoBulk d + 1
 end
def uptoSmall : (H : Type) → List (DataW H) → Bool := fun _ ds => decide (uptoBulkAll ds ≤ 1048576)
def OpenSpec.upto (s : _root_.Go.ChangeSpec) : _root_.Go.OpenSpec := { _root_.Go.OpenSpec.ofChange s with cond := some uptoSmall }

/-- 'workcelllaw.SpaceMoves', WHERE WHAT IT READS IS OF BULK AT MOST 1048576: true; the input reads as it did. -/
def spaceMovesUptoRow : OpenClaim := { program := "ytiafcgbohckmmaa", sum := "7d2ffe51a54aa1c3823ad745c916a5b06e860a07dc25991266c9d99a73890bff", func := "workcell/workcelllaw.SpaceMoves", spec := "spaceMoves", unfollowed := true, recurses := true, apart := false, narrowed := true }
def SpaceMovesUptoSaid : Prop := spaceMovesUptoRow.holds Try.pinned (OpenSpec.upto spaceMovesSpec)

/-- 'workcelllaw.SpaceLists', WHERE WHAT IT READS IS OF BULK AT MOST 1048576: true; the input reads as it did. -/
def spaceListsUptoRow : OpenClaim := { program := "ytiafcgbohckmmaa", sum := "7d2ffe51a54aa1c3823ad745c916a5b06e860a07dc25991266c9d99a73890bff", func := "workcell/workcelllaw.SpaceLists", spec := "spaceLists", unfollowed := true, recurses := true, apart := false, narrowed := true }
def SpaceListsUptoSaid : Prop := spaceListsUptoRow.holds Try.pinned (OpenSpec.upto spaceListsSpec)

/-- 'workcellkeep.SpaceMet', WHERE WHAT IT READS IS OF BULK AT MOST 1048576: true; the input reads as it did. -/
def spaceMetUptoRow : OpenClaim := { program := "ytiafcgbohckmmaa", sum := "7d2ffe51a54aa1c3823ad745c916a5b06e860a07dc25991266c9d99a73890bff", func := "workcell/workcellkeep.SpaceMet", spec := "spaceMet", unfollowed := true, recurses := true, apart := false, narrowed := true }
def SpaceMetUptoSaid : Prop := spaceMetUptoRow.holds Try.pinned (OpenSpec.upto spaceMetSpec)

/-- 'workcellkeep.SpaceSweeps', WHERE WHAT IT READS IS OF BULK AT MOST 1048576: true; the input reads as it did. -/
def spaceSweepsUptoRow : OpenClaim := { program := "ytiafcgbohckmmaa", sum := "7d2ffe51a54aa1c3823ad745c916a5b06e860a07dc25991266c9d99a73890bff", func := "workcell/workcellkeep.SpaceSweeps", spec := "spaceSweeps", unfollowed := true, recurses := true, apart := false, narrowed := true }
def SpaceSweepsUptoSaid : Prop := spaceSweepsUptoRow.holds Try.pinned (OpenSpec.upto spaceSweepsSpec)

/-- 'workcellkeep.SpaceSafe', WHERE WHAT IT READS IS OF BULK AT MOST 1048576: true; the input reads as it did. -/
def spaceSafeUptoRow : OpenClaim := { program := "ytiafcgbohckmmaa", sum := "7d2ffe51a54aa1c3823ad745c916a5b06e860a07dc25991266c9d99a73890bff", func := "workcell/workcellkeep.SpaceSafe", spec := "spaceSafe", unfollowed := true, recurses := true, apart := false, narrowed := true }
def SpaceSafeUptoSaid : Prop := spaceSafeUptoRow.holds Try.pinned (OpenSpec.upto spaceSafeSpec)

/-- 'workcellkeep.SpaceHulls', WHERE WHAT IT READS IS OF BULK AT MOST 1048576: true; the input reads as it did. -/
def spaceHullsUptoRow : OpenClaim := { program := "ytiafcgbohckmmaa", sum := "7d2ffe51a54aa1c3823ad745c916a5b06e860a07dc25991266c9d99a73890bff", func := "workcell/workcellkeep.SpaceHulls", spec := "spaceHulls", unfollowed := true, recurses := true, apart := false, narrowed := true }
def SpaceHullsUptoSaid : Prop := spaceHullsUptoRow.holds Try.pinned (OpenSpec.upto spaceHullsSpec)

end Rows
end Go.Proofs.Ytiafcgbohckmmaa
