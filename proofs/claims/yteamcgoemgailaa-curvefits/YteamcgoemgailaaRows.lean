/-
  No cell of these rows narrows 'for every input' (looked for: loops, veiled, ifaces, maps, wideKeys, modest, calm, conditions, laid).
  DERIVED. THE GIVEN ROWS OF THIS SEAT. 4 by the template 'for every input the law returns true; each argument reads behind the call as it read before'; 0 by the template 'total and deterministic' (their statements: YteamcgoemgailaaTotals.lean).
  GIVEN WITH THE SEED: the statements are not yours to turn. If you find one false, say at which input.
  Laid BY PROGRAM, IN A SANDBOX (cutbox-rows.mjs): the forced cells as the released guide's own fill.sh prints them over the translation de06d4b6770bf189… (all of the seat's roots in one cut). By AI agents, Wed Nov 11 2026. No macro, syntax, notation, axiom, sorry.
-/
import Derived.Test.YteamcgoemgailaaChecked
import GoSem.Claim
import GoSem.ClaimJoined
import GoSem.ClaimMapViews
import Derived.JoinedTies
import Derived.KernelRfl
namespace Go.Proofs.Yteamcgoemgailaa
/- THE CELL 'sum', in the pinned program and in every row, IS THE sha256 OF THE DUMP (.gsa) THAT YteamcgoemgailaaProg.lean LOADS. Nothing in Lean hashes anything: it is a label: what it is worth is what the hold of that sum in a sandbox is worth. -/
noncomputable def Try.pinned : Pinned := { name := "yteamcgoemgailaa", sum := "de06d4b6770bf18964ec18905789256eabfec59a8122fe1924a300d13135f050", checked := Try.checked }
namespace Rows
def none {H : Type} : Left H := { results := [], args := [] }

/-- 'workcelllaw.CurveTells': WHATEVER THE INPUT: true; the input reads as it did. -/
def curveTellsSpec : ChangeSpec := { name := "curveTells", fn := fun _ => fun
  | [d1, d2, d3] => { results := [.lit (.bool true)], args := [d1, d2, d3] }
  | _ => none }
def curveTellsRow : OpenClaim := { program := "yteamcgoemgailaa", sum := "de06d4b6770bf18964ec18905789256eabfec59a8122fe1924a300d13135f050", func := "workcell/workcelllaw.CurveTells", spec := "curveTells", unfollowed := true, recurses := true, apart := false }
def CurveTellsSaid : Prop := curveTellsRow.holds Try.pinned (OpenSpec.ofChange curveTellsSpec)

/-- ITS FALSE NEIGHBOUR: 'it returns false'. Refute it at one input. -/
def curveTellsWrong : ChangeSpec := { name := "curveTells", fn := fun _ => fun
  | [d1, d2, d3] => { results := [.lit (.bool false)], args := [d1, d2, d3] }
  | _ => none }
def CurveTellsWrongFalsely : Prop := curveTellsRow.holds Try.pinned (OpenSpec.ofChange curveTellsWrong)

/-- 'workcelllaw.CurveFits': WHATEVER THE INPUT: true; the input reads as it did. -/
def curveFitsSpec : ChangeSpec := { name := "curveFits", fn := fun _ => fun
  | [d] => { results := [.lit (.bool true)], args := [d] }
  | _ => none }
def curveFitsRow : OpenClaim := { program := "yteamcgoemgailaa", sum := "de06d4b6770bf18964ec18905789256eabfec59a8122fe1924a300d13135f050", func := "workcell/workcelllaw.CurveFits", spec := "curveFits", unfollowed := true, recurses := true, apart := false }
def CurveFitsSaid : Prop := curveFitsRow.holds Try.pinned (OpenSpec.ofChange curveFitsSpec)

/-- ITS FALSE NEIGHBOUR: 'it returns false'. Refute it at one input. -/
def curveFitsWrong : ChangeSpec := { name := "curveFits", fn := fun _ => fun
  | [d] => { results := [.lit (.bool false)], args := [d] }
  | _ => none }
def CurveFitsWrongFalsely : Prop := curveFitsRow.holds Try.pinned (OpenSpec.ofChange curveFitsWrong)

/-- 'workcellkeep.CurveRises': WHATEVER THE INPUT: true; the input reads as it did. -/
def curveRisesSpec : ChangeSpec := { name := "curveRises", fn := fun _ => fun
  | [d1, d2, d3] => { results := [.lit (.bool true)], args := [d1, d2, d3] }
  | _ => none }
def curveRisesRow : OpenClaim := { program := "yteamcgoemgailaa", sum := "de06d4b6770bf18964ec18905789256eabfec59a8122fe1924a300d13135f050", func := "workcell/workcellkeep.CurveRises", spec := "curveRises", unfollowed := true, recurses := true, apart := false }
def CurveRisesSaid : Prop := curveRisesRow.holds Try.pinned (OpenSpec.ofChange curveRisesSpec)

/-- ITS FALSE NEIGHBOUR: 'it returns false'. Refute it at one input. -/
def curveRisesWrong : ChangeSpec := { name := "curveRises", fn := fun _ => fun
  | [d1, d2, d3] => { results := [.lit (.bool false)], args := [d1, d2, d3] }
  | _ => none }
def CurveRisesWrongFalsely : Prop := curveRisesRow.holds Try.pinned (OpenSpec.ofChange curveRisesWrong)

/-- 'workcellkeep.CurveFitted': WHATEVER THE INPUT: true; the input reads as it did. -/
def curveFittedSpec : ChangeSpec := { name := "curveFitted", fn := fun _ => fun
  | [d1, d2] => { results := [.lit (.bool true)], args := [d1, d2] }
  | _ => none }
def curveFittedRow : OpenClaim := { program := "yteamcgoemgailaa", sum := "de06d4b6770bf18964ec18905789256eabfec59a8122fe1924a300d13135f050", func := "workcell/workcellkeep.CurveFitted", spec := "curveFitted", unfollowed := true, recurses := true, apart := false }
def CurveFittedSaid : Prop := curveFittedRow.holds Try.pinned (OpenSpec.ofChange curveFittedSpec)

/-- ITS FALSE NEIGHBOUR: 'it returns false'. Refute it at one input. -/
def curveFittedWrong : ChangeSpec := { name := "curveFitted", fn := fun _ => fun
  | [d1, d2] => { results := [.lit (.bool false)], args := [d1, d2] }
  | _ => none }
def CurveFittedWrongFalsely : Prop := curveFittedRow.holds Try.pinned (OpenSpec.ofChange curveFittedWrong)

/- THE SECOND FORM. 'bulk': how many values and letters a reading holds, each counted each time it is reached (what is shared counts as often as it is met; a slice's spare places count too). A statement '..UptoSaid' is the law's where the arguments, and the package variables that the reading takes, are together of bulk at most 1048576: NARROWER than '..Said'. Prove '..Said' where nothing that the law and all that it calls make is longer than what came in: it says more and counts as full. Else prove '..UptoSaid'. A law counts once. -/
mutual
def uptoBulk {H : Type} : DataW H → Nat
  | .lit (.string bytes) => bytes.length + 1
  | .lit _ => 1
  | .nil => 1
  | .ptr d => uptoBulk d + 1
  | .slice elems spare => uptoBulkAll elems + uptoBulkAll spare + 1
  | .agg parts => uptoBulkAll parts + 1
  | .iface _ d => uptoBulk d + 1
  | .map entries => uptoBulkEntries entries + 1
  | .held _ => 1
def uptoBulkAll {H : Type} : List (DataW H) → Nat
  | [] => 0
  | d :: r => uptoBulk d + uptoBulkAll r
def uptoBulkEntries {H : Type} : List (Lit × DataW H) → Nat
  | [] => 0
  | x :: r => uptoBulkEntry x + uptoBulkEntries r
def uptoBulkEntry {H : Type} : Lit × DataW H → Nat
  | (.string bytes, d) => bytes.length + uptoBulk d + 1
  | (_, d) => uptoBulk d + 1
 end
def uptoSmall : (H : Type) → List (DataW H) → Bool := fun _ ds => decide (uptoBulkAll ds ≤ 1048576)
def OpenSpec.upto (s : _root_.Go.ChangeSpec) : _root_.Go.OpenSpec := { _root_.Go.OpenSpec.ofChange s with cond := some uptoSmall }

/-- 'workcelllaw.CurveTells', WHERE WHAT IT READS IS OF BULK AT MOST 1048576: true; the input reads as it did. -/
def curveTellsUptoRow : OpenClaim := { program := "yteamcgoemgailaa", sum := "de06d4b6770bf18964ec18905789256eabfec59a8122fe1924a300d13135f050", func := "workcell/workcelllaw.CurveTells", spec := "curveTells", unfollowed := true, recurses := true, apart := false, narrowed := true }
def CurveTellsUptoSaid : Prop := curveTellsUptoRow.holds Try.pinned (OpenSpec.upto curveTellsSpec)

/-- 'workcelllaw.CurveFits', WHERE WHAT IT READS IS OF BULK AT MOST 1048576: true; the input reads as it did. -/
def curveFitsUptoRow : OpenClaim := { program := "yteamcgoemgailaa", sum := "de06d4b6770bf18964ec18905789256eabfec59a8122fe1924a300d13135f050", func := "workcell/workcelllaw.CurveFits", spec := "curveFits", unfollowed := true, recurses := true, apart := false, narrowed := true }
def CurveFitsUptoSaid : Prop := curveFitsUptoRow.holds Try.pinned (OpenSpec.upto curveFitsSpec)

/-- 'workcellkeep.CurveRises', WHERE WHAT IT READS IS OF BULK AT MOST 1048576: true; the input reads as it did. -/
def curveRisesUptoRow : OpenClaim := { program := "yteamcgoemgailaa", sum := "de06d4b6770bf18964ec18905789256eabfec59a8122fe1924a300d13135f050", func := "workcell/workcellkeep.CurveRises", spec := "curveRises", unfollowed := true, recurses := true, apart := false, narrowed := true }
def CurveRisesUptoSaid : Prop := curveRisesUptoRow.holds Try.pinned (OpenSpec.upto curveRisesSpec)

/-- 'workcellkeep.CurveFitted', WHERE WHAT IT READS IS OF BULK AT MOST 1048576: true; the input reads as it did. -/
def curveFittedUptoRow : OpenClaim := { program := "yteamcgoemgailaa", sum := "de06d4b6770bf18964ec18905789256eabfec59a8122fe1924a300d13135f050", func := "workcell/workcellkeep.CurveFitted", spec := "curveFitted", unfollowed := true, recurses := true, apart := false, narrowed := true }
def CurveFittedUptoSaid : Prop := curveFittedUptoRow.holds Try.pinned (OpenSpec.upto curveFittedSpec)

end Rows
end Go.Proofs.Yteamcgoemgailaa
