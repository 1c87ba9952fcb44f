/-
  NARROWER THAN 'FOR EVERY INPUT', by the rows' own cells (each row's printed sentence says how): FirmDoes: laid · FirmRuns: laid · FirmKeeps: laid · FirmGoesOn: laid.
  DERIVED. THE GIVEN ROWS OF THIS SEAT. 4 by the template 'for every input the law returns true; each argument reads behind the call as it read before'; 0 by the template 'total and deterministic' (their statements: YtgahlhfgpkklaaaDoorTotals.lean).
  GIVEN WITH THE SEED: the statements are not yours to turn. If you find one false, say at which input.
  Laid BY PROGRAM, IN A SANDBOX (cutbox-rows.mjs): the forced cells as the released guide's own fill.sh prints them over the translation fc2570adc2cbca6c… (all of the seat's roots in one cut). By AI agents, Wed Nov 11 2026. No macro, syntax, notation, axiom, sorry.
-/
import Derived.Test.YtgahlhfgpkklaaaDoorChecked
import GoSem.Claim
import GoSem.ClaimJoined
import GoSem.ClaimMapViews
import Derived.JoinedTies
import Derived.KernelRfl
namespace Go.Proofs.YtgahlhfgpkklaaaDoor
/- THE CELL 'sum', in the pinned program and in every row, IS THE sha256 OF THE DUMP (.gsa) THAT YtgahlhfgpkklaaaDoorProg.lean LOADS. Nothing in Lean hashes anything: it is a label: what it is worth is what the hold of that sum in a sandbox is worth. -/
noncomputable def Tryd.pinned : Pinned := { name := "ytgahlhfgpkklaaadoor", sum := "fc2570adc2cbca6c07ab43856806b285031c5b2051dd119088caacfffc37c257", checked := Tryd.checked }
namespace Rows
def none {H : Type} : Left H := { results := [], args := [] }

/- WHAT THE LISTED PACKAGE-LEVEL VARIABLES READ AS WHEN THE CALL BEGINS. Each datum BY PROGRAM (the guide's laid-datum.mjs) off the statement by which the dump's own 'gosem.cut.vars' lays the variable. In a bare row this is a premise. The card (YtgahlhfgpkklaaaDoorCards.lean) ties it to the program's text. -/
def laid_workcell_code_words {H : Type} : DataW H := .agg [.agg [.lit (.string []), .agg [.lit (.string []), .lit (.string []), .lit (.string []), .lit (.string [])]], .agg [.lit (.string [71, 50, 56]), .agg [.lit (.string []), .lit (.string []), .lit (.string []), .lit (.string [])]], .agg [.lit (.string [71, 49]), .agg [.lit (.string [88]), .lit (.string [89]), .lit (.string [90]), .lit (.string [])]], .agg [.lit (.string [77, 49]), .agg [.lit (.string []), .lit (.string []), .lit (.string []), .lit (.string [83])]], .agg [.lit (.string [77, 50]), .agg [.lit (.string []), .lit (.string []), .lit (.string []), .lit (.string [])]], .agg [.lit (.string [77, 51]), .agg [.lit (.string []), .lit (.string []), .lit (.string []), .lit (.string [])]], .agg [.lit (.string [77, 49, 48, 52]), .agg [.lit (.string []), .lit (.string []), .lit (.string []), .lit (.string [83])]], .agg [.lit (.string [71, 52]), .agg [.lit (.string []), .lit (.string []), .lit (.string []), .lit (.string [80])]], .agg [.lit (.string [77, 49, 48, 54]), .agg [.lit (.string []), .lit (.string []), .lit (.string []), .lit (.string [83])]]]
def laid_workcell_firm_errNoRig {H : Type} : DataW H := .iface "*errors.errorString" (.ptr (.agg [.lit (.string [116, 104, 101, 114, 101, 32, 105, 115, 32, 110, 111, 32, 115, 117, 99, 104, 32, 114, 105, 103])]))
def laid_workcell_firm_errNoState {H : Type} : DataW H := .iface "*errors.errorString" (.ptr (.agg [.lit (.string [116, 104, 101, 114, 101, 32, 105, 115, 32, 110, 111, 32, 115, 117, 99, 104, 32, 115, 116, 97, 116, 101])]))
def laid_workcell_firm_errNotHomed {H : Type} : DataW H := .iface "*errors.errorString" (.ptr (.agg [.lit (.string [119, 104, 101, 114, 101, 32, 116, 104, 101, 32, 109, 97, 99, 104, 105, 110, 101, 32, 105, 115, 44, 32, 105, 115, 32, 110, 111, 116, 32, 107, 110, 111, 119, 110])]))
def laid_workcell_firm_errOutside {H : Type} : DataW H := .iface "*errors.errorString" (.ptr (.agg [.lit (.string [116, 104, 101, 32, 109, 97, 99, 104, 105, 110, 101, 32, 109, 97, 121, 32, 110, 111, 116, 32, 103, 111, 32, 116, 104, 101, 114, 101])]))
def laid_workcell_firm_errNoTip {H : Type} : DataW H := .iface "*errors.errorString" (.ptr (.agg [.lit (.string [116, 104, 101, 114, 101, 32, 105, 115, 32, 110, 111, 32, 116, 105, 112])]))
def laid_workcell_firm_errTipThere {H : Type} : DataW H := .iface "*errors.errorString" (.ptr (.agg [.lit (.string [116, 104, 101, 114, 101, 32, 105, 115, 32, 97, 32, 116, 105, 112, 32, 97, 108, 114, 101, 97, 100, 121])]))
def laid_workcell_firm_errTooFar {H : Type} : DataW H := .iface "*errors.errorString" (.ptr (.agg [.lit (.string [116, 104, 101, 32, 112, 108, 117, 110, 103, 101, 114, 32, 100, 111, 101, 115, 32, 110, 111, 116, 32, 103, 111, 32, 115, 111, 32, 102, 97, 114])]))
def laid_workcell_firm_errTooLate {H : Type} : DataW H := .iface "*errors.errorString" (.ptr (.agg [.lit (.string [97, 32, 114, 117, 110, 32, 104, 97, 115, 32, 110, 111, 32, 109, 111, 114, 101, 32, 116, 105, 99, 107, 115])]))

/-- 'workcelllaw.FirmDoes': WHATEVER THE INPUT: true; the input reads as it did. -/
def firmDoesSpec : ChangeSpec := { name := "firmDoes", fn := fun _ => fun
  | [d1, d2, d3, d4, d5] => { results := [.lit (.bool true)], args := [d1, d2, d3, d4, d5] }
  | _ => none }
def firmDoesRow : OpenClaim := { program := "ytgahlhfgpkklaaadoor", sum := "fc2570adc2cbca6c07ab43856806b285031c5b2051dd119088caacfffc37c257", func := "workcell/workcelllaw.FirmDoes", spec := "firmDoes", inPlace := ["internal/reflectlite.TypeOf"], unfollowed := true, recurses := true, named := ["workcell/firm.errNoRig", "workcell/firm.errNoState", "workcell/firm.errNotHomed", "workcell/firm.errOutside", "workcell/firm.errNoTip", "workcell/firm.errTipThere", "workcell/firm.errTooFar", "workcell/firm.errTooLate", "workcell/code.words"], apart := false, laid := [("workcell/code.words", laid_workcell_code_words), ("workcell/firm.errNoRig", laid_workcell_firm_errNoRig), ("workcell/firm.errNoState", laid_workcell_firm_errNoState), ("workcell/firm.errNotHomed", laid_workcell_firm_errNotHomed), ("workcell/firm.errOutside", laid_workcell_firm_errOutside), ("workcell/firm.errNoTip", laid_workcell_firm_errNoTip), ("workcell/firm.errTipThere", laid_workcell_firm_errTipThere), ("workcell/firm.errTooFar", laid_workcell_firm_errTooFar), ("workcell/firm.errTooLate", laid_workcell_firm_errTooLate)] }
def FirmDoesSaid : Prop := firmDoesRow.holds Tryd.pinned (OpenSpec.ofChange firmDoesSpec)

/-- ITS FALSE NEIGHBOUR: 'it returns false'. Refute it at one input. -/
def firmDoesWrong : ChangeSpec := { name := "firmDoes", fn := fun _ => fun
  | [d1, d2, d3, d4, d5] => { results := [.lit (.bool false)], args := [d1, d2, d3, d4, d5] }
  | _ => none }
def FirmDoesWrongFalsely : Prop := firmDoesRow.holds Tryd.pinned (OpenSpec.ofChange firmDoesWrong)

/-- 'workcelllaw.FirmRuns': WHATEVER THE INPUT: true; the input reads as it did. -/
def firmRunsSpec : ChangeSpec := { name := "firmRuns", fn := fun _ => fun
  | [d1, d2] => { results := [.lit (.bool true)], args := [d1, d2] }
  | _ => none }
def firmRunsRow : OpenClaim := { program := "ytgahlhfgpkklaaadoor", sum := "fc2570adc2cbca6c07ab43856806b285031c5b2051dd119088caacfffc37c257", func := "workcell/workcelllaw.FirmRuns", spec := "firmRuns", inPlace := ["internal/reflectlite.TypeOf"], unfollowed := true, recurses := true, named := ["workcell/firm.errNoRig", "workcell/firm.errNoState", "workcell/firm.errNotHomed", "workcell/firm.errOutside", "workcell/firm.errNoTip", "workcell/firm.errTipThere", "workcell/firm.errTooFar", "workcell/firm.errTooLate", "workcell/code.words"], apart := false, laid := [("workcell/code.words", laid_workcell_code_words), ("workcell/firm.errNoRig", laid_workcell_firm_errNoRig), ("workcell/firm.errNoState", laid_workcell_firm_errNoState), ("workcell/firm.errNotHomed", laid_workcell_firm_errNotHomed), ("workcell/firm.errOutside", laid_workcell_firm_errOutside), ("workcell/firm.errNoTip", laid_workcell_firm_errNoTip), ("workcell/firm.errTipThere", laid_workcell_firm_errTipThere), ("workcell/firm.errTooFar", laid_workcell_firm_errTooFar), ("workcell/firm.errTooLate", laid_workcell_firm_errTooLate)] }
def FirmRunsSaid : Prop := firmRunsRow.holds Tryd.pinned (OpenSpec.ofChange firmRunsSpec)

/-- ITS FALSE NEIGHBOUR: 'it returns false'. Refute it at one input. -/
def firmRunsWrong : ChangeSpec := { name := "firmRuns", fn := fun _ => fun
  | [d1, d2] => { results := [.lit (.bool false)], args := [d1, d2] }
  | _ => none }
def FirmRunsWrongFalsely : Prop := firmRunsRow.holds Tryd.pinned (OpenSpec.ofChange firmRunsWrong)

/-- 'workcellkeep.FirmKeeps': WHATEVER THE INPUT: true; the input reads as it did. -/
def firmKeepsSpec : ChangeSpec := { name := "firmKeeps", fn := fun _ => fun
  | [d1, d2, d3] => { results := [.lit (.bool true)], args := [d1, d2, d3] }
  | _ => none }
def firmKeepsRow : OpenClaim := { program := "ytgahlhfgpkklaaadoor", sum := "fc2570adc2cbca6c07ab43856806b285031c5b2051dd119088caacfffc37c257", func := "workcell/workcellkeep.FirmKeeps", spec := "firmKeeps", inPlace := ["internal/reflectlite.TypeOf"], unfollowed := true, recurses := true, named := ["workcell/firm.errNoRig", "workcell/firm.errNoState", "workcell/firm.errNotHomed", "workcell/firm.errOutside", "workcell/firm.errNoTip", "workcell/firm.errTipThere", "workcell/firm.errTooFar", "workcell/firm.errTooLate", "workcell/code.words"], apart := false, laid := [("workcell/code.words", laid_workcell_code_words), ("workcell/firm.errNoRig", laid_workcell_firm_errNoRig), ("workcell/firm.errNoState", laid_workcell_firm_errNoState), ("workcell/firm.errNotHomed", laid_workcell_firm_errNotHomed), ("workcell/firm.errOutside", laid_workcell_firm_errOutside), ("workcell/firm.errNoTip", laid_workcell_firm_errNoTip), ("workcell/firm.errTipThere", laid_workcell_firm_errTipThere), ("workcell/firm.errTooFar", laid_workcell_firm_errTooFar), ("workcell/firm.errTooLate", laid_workcell_firm_errTooLate)] }
def FirmKeepsSaid : Prop := firmKeepsRow.holds Tryd.pinned (OpenSpec.ofChange firmKeepsSpec)

/-- ITS FALSE NEIGHBOUR: 'it returns false'. Refute it at one input. -/
def firmKeepsWrong : ChangeSpec := { name := "firmKeeps", fn := fun _ => fun
  | [d1, d2, d3] => { results := [.lit (.bool false)], args := [d1, d2, d3] }
  | _ => none }
def FirmKeepsWrongFalsely : Prop := firmKeepsRow.holds Tryd.pinned (OpenSpec.ofChange firmKeepsWrong)

/-- 'workcellkeep.FirmGoesOn': WHATEVER THE INPUT: true; the input reads as it did. -/
def firmGoesOnSpec : ChangeSpec := { name := "firmGoesOn", fn := fun _ => fun
  | [d1, d2, d3] => { results := [.lit (.bool true)], args := [d1, d2, d3] }
  | _ => none }
def firmGoesOnRow : OpenClaim := { program := "ytgahlhfgpkklaaadoor", sum := "fc2570adc2cbca6c07ab43856806b285031c5b2051dd119088caacfffc37c257", func := "workcell/workcellkeep.FirmGoesOn", spec := "firmGoesOn", inPlace := ["internal/reflectlite.TypeOf"], unfollowed := true, recurses := true, named := ["workcell/firm.errNoRig", "workcell/firm.errNoState", "workcell/firm.errNotHomed", "workcell/firm.errOutside", "workcell/firm.errNoTip", "workcell/firm.errTipThere", "workcell/firm.errTooFar", "workcell/firm.errTooLate", "workcell/code.words"], apart := false, laid := [("workcell/code.words", laid_workcell_code_words), ("workcell/firm.errNoRig", laid_workcell_firm_errNoRig), ("workcell/firm.errNoState", laid_workcell_firm_errNoState), ("workcell/firm.errNotHomed", laid_workcell_firm_errNotHomed), ("workcell/firm.errOutside", laid_workcell_firm_errOutside), ("workcell/firm.errNoTip", laid_workcell_firm_errNoTip), ("workcell/firm.errTipThere", laid_workcell_firm_errTipThere), ("workcell/firm.errTooFar", laid_workcell_firm_errTooFar), ("workcell/firm.errTooLate", laid_workcell_firm_errTooLate)] }
def FirmGoesOnSaid : Prop := firmGoesOnRow.holds Tryd.pinned (OpenSpec.ofChange firmGoesOnSpec)

/-- ITS FALSE NEIGHBOUR: 'it returns false'. Refute it at one input. -/
def firmGoesOnWrong : ChangeSpec := { name := "firmGoesOn", fn := fun _ => fun
  | [d1, d2, d3] => { results := [.lit (.bool false)], args := [d1, d2, d3] }
  | _ => none }
def FirmGoesOnWrongFalsely : Prop := firmGoesOnRow.holds Tryd.pinned (OpenSpec.ofChange firmGoesOnWrong)

/- THE SECOND FORM. 'bulk': how many values and letters a reading holds, each counted each time it is reached (what is shared counts as often as it is met; a slice's spare places count too). A statement '..UptoSaid' is the law's where the arguments, and the package variables that the reading takes, are together of bulk at most 1048576: NARROWER than '..Said'. Prove '..Said' where nothing that the law and all that it calls make is longer than what came in: it says more and counts as full. Else prove '..UptoSaid'. A law counts once. -/
mutual
def uptoBulk {H : Type} : DataW H → Nat
  | .lit (.string bytes) => bytes.length + 1
  | .lit _ => 1
  | .nil => 1
  | .ptr d => uptoBulk d + 1
  | .slice elems spare => uptoBulkAll elems + uptoBulkAll spare + 1
  | .agg parts => uptoBulkAll parts + 1
  | .iface _ d => uptoBulk d + 1
  | .map entries => uptoBulkEntries entries + 1
  | .held _ => 1
def uptoBulkAll {H : Type} : List (DataW H) → Nat
  | [] => 0
  | d :: r => uptoBulk d + uptoBulkAll r
def uptoBulkEntries {H : Type} : List (Lit × DataW H) → Nat
  | [] => 0
  | x :: r => uptoBulkEntry x + uptoBulkEntries r
def uptoBulkEntry {H : Type} : Lit × DataW H → Nat
  | (.string bytes, d) => bytes.length + uptoBulk d + 1
  | (_, d) => uptoBulk d + 1
 end
def uptoSmall : (H : Type) → List (DataW H) → Bool := fun _ ds => decide (uptoBulkAll ds ≤ 1048576)
def OpenSpec.upto (s : _root_.Go.ChangeSpec) : _root_.Go.OpenSpec := { _root_.Go.OpenSpec.ofChange s with cond := some uptoSmall }

/-- 'workcelllaw.FirmDoes', WHERE WHAT IT READS IS OF BULK AT MOST 1048576: true; the input reads as it did. -/
def firmDoesUptoRow : OpenClaim := { program := "ytgahlhfgpkklaaadoor", sum := "fc2570adc2cbca6c07ab43856806b285031c5b2051dd119088caacfffc37c257", func := "workcell/workcelllaw.FirmDoes", spec := "firmDoes", inPlace := ["internal/reflectlite.TypeOf"], unfollowed := true, recurses := true, named := ["workcell/firm.errNoRig", "workcell/firm.errNoState", "workcell/firm.errNotHomed", "workcell/firm.errOutside", "workcell/firm.errNoTip", "workcell/firm.errTipThere", "workcell/firm.errTooFar", "workcell/firm.errTooLate", "workcell/code.words"], apart := false, laid := [("workcell/code.words", laid_workcell_code_words), ("workcell/firm.errNoRig", laid_workcell_firm_errNoRig), ("workcell/firm.errNoState", laid_workcell_firm_errNoState), ("workcell/firm.errNotHomed", laid_workcell_firm_errNotHomed), ("workcell/firm.errOutside", laid_workcell_firm_errOutside), ("workcell/firm.errNoTip", laid_workcell_firm_errNoTip), ("workcell/firm.errTipThere", laid_workcell_firm_errTipThere), ("workcell/firm.errTooFar", laid_workcell_firm_errTooFar), ("workcell/firm.errTooLate", laid_workcell_firm_errTooLate)], narrowed := true }
def FirmDoesUptoSaid : Prop := firmDoesUptoRow.holds Tryd.pinned (OpenSpec.upto firmDoesSpec)

/-- 'workcelllaw.FirmRuns', WHERE WHAT IT READS IS OF BULK AT MOST 1048576: true; the input reads as it did. -/
def firmRunsUptoRow : OpenClaim := { program := "ytgahlhfgpkklaaadoor", sum := "fc2570adc2cbca6c07ab43856806b285031c5b2051dd119088caacfffc37c257", func := "workcell/workcelllaw.FirmRuns", spec := "firmRuns", inPlace := ["internal/reflectlite.TypeOf"], unfollowed := true, recurses := true, named := ["workcell/firm.errNoRig", "workcell/firm.errNoState", "workcell/firm.errNotHomed", "workcell/firm.errOutside", "workcell/firm.errNoTip", "workcell/firm.errTipThere", "workcell/firm.errTooFar", "workcell/firm.errTooLate", "workcell/code.words"], apart := false, laid := [("workcell/code.words", laid_workcell_code_words), ("workcell/firm.errNoRig", laid_workcell_firm_errNoRig), ("workcell/firm.errNoState", laid_workcell_firm_errNoState), ("workcell/firm.errNotHomed", laid_workcell_firm_errNotHomed), ("workcell/firm.errOutside", laid_workcell_firm_errOutside), ("workcell/firm.errNoTip", laid_workcell_firm_errNoTip), ("workcell/firm.errTipThere", laid_workcell_firm_errTipThere), ("workcell/firm.errTooFar", laid_workcell_firm_errTooFar), ("workcell/firm.errTooLate", laid_workcell_firm_errTooLate)], narrowed := true }
def FirmRunsUptoSaid : Prop := firmRunsUptoRow.holds Tryd.pinned (OpenSpec.upto firmRunsSpec)

/-- 'workcellkeep.FirmKeeps', WHERE WHAT IT READS IS OF BULK AT MOST 1048576: true; the input reads as it did. -/
def firmKeepsUptoRow : OpenClaim := { program := "ytgahlhfgpkklaaadoor", sum := "fc2570adc2cbca6c07ab43856806b285031c5b2051dd119088caacfffc37c257", func := "workcell/workcellkeep.FirmKeeps", spec := "firmKeeps", inPlace := ["internal/reflectlite.TypeOf"], unfollowed := true, recurses := true, named := ["workcell/firm.errNoRig", "workcell/firm.errNoState", "workcell/firm.errNotHomed", "workcell/firm.errOutside", "workcell/firm.errNoTip", "workcell/firm.errTipThere", "workcell/firm.errTooFar", "workcell/firm.errTooLate", "workcell/code.words"], apart := false, laid := [("workcell/code.words", laid_workcell_code_words), ("workcell/firm.errNoRig", laid_workcell_firm_errNoRig), ("workcell/firm.errNoState", laid_workcell_firm_errNoState), ("workcell/firm.errNotHomed", laid_workcell_firm_errNotHomed), ("workcell/firm.errOutside", laid_workcell_firm_errOutside), ("workcell/firm.errNoTip", laid_workcell_firm_errNoTip), ("workcell/firm.errTipThere", laid_workcell_firm_errTipThere), ("workcell/firm.errTooFar", laid_workcell_firm_errTooFar), ("workcell/firm.errTooLate", laid_workcell_firm_errTooLate)], narrowed := true }
def FirmKeepsUptoSaid : Prop := firmKeepsUptoRow.holds Tryd.pinned (OpenSpec.upto firmKeepsSpec)

/-- 'workcellkeep.FirmGoesOn', WHERE WHAT IT READS IS OF BULK AT MOST 1048576: true; the input reads as it did. -/
def firmGoesOnUptoRow : OpenClaim := { program := "ytgahlhfgpkklaaadoor", sum := "fc2570adc2cbca6c07ab43856806b285031c5b2051dd119088caacfffc37c257", func := "workcell/workcellkeep.FirmGoesOn", spec := "firmGoesOn", inPlace := ["internal/reflectlite.TypeOf"], unfollowed := true, recurses := true, named := ["workcell/firm.errNoRig", "workcell/firm.errNoState", "workcell/firm.errNotHomed", "workcell/firm.errOutside", "workcell/firm.errNoTip", "workcell/firm.errTipThere", "workcell/firm.errTooFar", "workcell/firm.errTooLate", "workcell/code.words"], apart := false, laid := [("workcell/code.words", laid_workcell_code_words), ("workcell/firm.errNoRig", laid_workcell_firm_errNoRig), ("workcell/firm.errNoState", laid_workcell_firm_errNoState), ("workcell/firm.errNotHomed", laid_workcell_firm_errNotHomed), ("workcell/firm.errOutside", laid_workcell_firm_errOutside), ("workcell/firm.errNoTip", laid_workcell_firm_errNoTip), ("workcell/firm.errTipThere", laid_workcell_firm_errTipThere), ("workcell/firm.errTooFar", laid_workcell_firm_errTooFar), ("workcell/firm.errTooLate", laid_workcell_firm_errTooLate)], narrowed := true }
def FirmGoesOnUptoSaid : Prop := firmGoesOnUptoRow.holds Tryd.pinned (OpenSpec.upto firmGoesOnSpec)

end Rows
end Go.Proofs.YtgahlhfgpkklaaaDoor
