/-
  No cell of these rows narrows 'for every input' (looked for: loops, veiled, ifaces, maps, wideKeys, modest, calm, conditions, laid).
  DERIVED. THE GIVEN ROWS OF THIS SEAT. 4 by the template 'for every input the law returns true; each argument reads behind the call as it read before'; 0 by the template 'total and deterministic' (their statements: YtfadmpnpgiceeaaGreatTotals.lean).
  GIVEN WITH THE SEED: the statements are not yours to turn. If you find one false, say at which input.
  Laid BY PROGRAM, IN A SANDBOX (cutbox-rows.mjs): the forced cells as the released guide's own fill.sh prints them over the translation 709857c67d67583d… (all of the seat's roots in one cut). By AI agents, Wed Nov 11 2026. No macro, syntax, notation, axiom, sorry.
-/
import Derived.Test.YtfadmpnpgiceeaaGreatChecked
import GoSem.Claim
import GoSem.ClaimJoined
import GoSem.ClaimMapViews
import Derived.JoinedTies
import Derived.KernelRfl
namespace Go.Proofs.YtfadmpnpgiceeaaGreat
/- THE CELL 'sum', in the pinned program and in every row, IS THE sha256 OF THE DUMP (.gsa) THAT YtfadmpnpgiceeaaGreatProg.lean LOADS. Nothing in Lean hashes anything: it is a label: what it is worth is what the hold of that sum in a sandbox is worth. -/
noncomputable def Tryz.pinned : Pinned := { name := "ytfadmpnpgiceeaagreat", sum := "709857c67d67583d72ceb72dc49c862e94b0e3bf49693699e029f2c9ef94d671", checked := Tryz.checked }
namespace Rows
def none {H : Type} : Left H := { results := [], args := [] }

/-- 'workcelllaw.MeanApplies': WHATEVER THE INPUT: true; the input reads as it did. -/
def meanAppliesSpec : ChangeSpec := { name := "meanApplies", fn := fun _ => fun
  | [d1, d2, d3, d4] => { results := [.lit (.bool true)], args := [d1, d2, d3, d4] }
  | _ => none }
def meanAppliesRow : OpenClaim := { program := "ytfadmpnpgiceeaagreat", sum := "709857c67d67583d72ceb72dc49c862e94b0e3bf49693699e029f2c9ef94d671", func := "workcell/workcelllaw.MeanApplies", spec := "meanApplies", unfollowed := true, recurses := true, plainKeys := false, apart := false }
def MeanAppliesSaid : Prop := meanAppliesRow.holds Tryz.pinned (OpenSpec.ofChange meanAppliesSpec)

/-- ITS FALSE NEIGHBOUR: 'it returns false'. Refute it at one input. -/
def meanAppliesWrong : ChangeSpec := { name := "meanApplies", fn := fun _ => fun
  | [d1, d2, d3, d4] => { results := [.lit (.bool false)], args := [d1, d2, d3, d4] }
  | _ => none }
def MeanAppliesWrongFalsely : Prop := meanAppliesRow.holds Tryz.pinned (OpenSpec.ofChange meanAppliesWrong)

/-- 'workcellkeep.MeanKeeps': WHATEVER THE INPUT: true; the input reads as it did. -/
def meanKeepsSpec : ChangeSpec := { name := "meanKeeps", fn := fun _ => fun
  | [d1, d2, d3] => { results := [.lit (.bool true)], args := [d1, d2, d3] }
  | _ => none }
def meanKeepsRow : OpenClaim := { program := "ytfadmpnpgiceeaagreat", sum := "709857c67d67583d72ceb72dc49c862e94b0e3bf49693699e029f2c9ef94d671", func := "workcell/workcellkeep.MeanKeeps", spec := "meanKeeps", unfollowed := true, recurses := true, plainKeys := false, apart := false }
def MeanKeepsSaid : Prop := meanKeepsRow.holds Tryz.pinned (OpenSpec.ofChange meanKeepsSpec)

/-- ITS FALSE NEIGHBOUR: 'it returns false'. Refute it at one input. -/
def meanKeepsWrong : ChangeSpec := { name := "meanKeeps", fn := fun _ => fun
  | [d1, d2, d3] => { results := [.lit (.bool false)], args := [d1, d2, d3] }
  | _ => none }
def MeanKeepsWrongFalsely : Prop := meanKeepsRow.holds Tryz.pinned (OpenSpec.ofChange meanKeepsWrong)

/-- 'workcellkeep.MeanSteps': WHATEVER THE INPUT: true; the input reads as it did. -/
def meanStepsSpec : ChangeSpec := { name := "meanSteps", fn := fun _ => fun
  | [d1, d2] => { results := [.lit (.bool true)], args := [d1, d2] }
  | _ => none }
def meanStepsRow : OpenClaim := { program := "ytfadmpnpgiceeaagreat", sum := "709857c67d67583d72ceb72dc49c862e94b0e3bf49693699e029f2c9ef94d671", func := "workcell/workcellkeep.MeanSteps", spec := "meanSteps", unfollowed := true, recurses := true, plainKeys := false, apart := false }
def MeanStepsSaid : Prop := meanStepsRow.holds Tryz.pinned (OpenSpec.ofChange meanStepsSpec)

/-- ITS FALSE NEIGHBOUR: 'it returns false'. Refute it at one input. -/
def meanStepsWrong : ChangeSpec := { name := "meanSteps", fn := fun _ => fun
  | [d1, d2] => { results := [.lit (.bool false)], args := [d1, d2] }
  | _ => none }
def MeanStepsWrongFalsely : Prop := meanStepsRow.holds Tryz.pinned (OpenSpec.ofChange meanStepsWrong)

/-- 'workcellkeep.MeanFull': WHATEVER THE INPUT: true; the input reads as it did. -/
def meanFullSpec : ChangeSpec := { name := "meanFull", fn := fun _ => fun
  | [d1, d2] => { results := [.lit (.bool true)], args := [d1, d2] }
  | _ => none }
def meanFullRow : OpenClaim := { program := "ytfadmpnpgiceeaagreat", sum := "709857c67d67583d72ceb72dc49c862e94b0e3bf49693699e029f2c9ef94d671", func := "workcell/workcellkeep.MeanFull", spec := "meanFull", unfollowed := true, recurses := true, plainKeys := false, apart := false }
def MeanFullSaid : Prop := meanFullRow.holds Tryz.pinned (OpenSpec.ofChange meanFullSpec)

/-- ITS FALSE NEIGHBOUR: 'it returns false'. Refute it at one input. -/
def meanFullWrong : ChangeSpec := { name := "meanFull", fn := fun _ => fun
  | [d1, d2] => { results := [.lit (.bool false)], args := [d1, d2] }
  | _ => none }
def MeanFullWrongFalsely : Prop := meanFullRow.holds Tryz.pinned (OpenSpec.ofChange meanFullWrong)

/- THE SECOND FORM. 'bulk': how many values and letters a reading holds, each counted each time it is reached (what is shared counts as often as it is met; a slice's spare places count too). A statement '..UptoSaid' is the law's where the arguments, and the package variables that the reading takes, are together of bulk at most 1048576: NARROWER than '..Said'. Prove '..Said' where nothing that the law and all that it calls make is longer than what came in: it says more and counts as full. Else prove '..UptoSaid'. A law counts once. -/
mutual
def uptoBulk {H : Type} : DataW H → Nat
  | .lit (.string bytes) => bytes.length + 1
  | .lit _ => 1
  | .nil => 1
  | .ptr d => uptoBulk d + 1
  | .slice elems spare => uptoBulkAll elems + uptoBulkAll spare + 1
  | .agg parts => uptoBulkAll parts + 1
  | .iface _ d => uptoBulk d + 1
  | .map entries => uptoBulkEntries entries + 1
  | .held _ => 1
def uptoBulkAll {H : Type} : List (DataW H) → Nat
  | [] => 0
  | d :: r => uptoBulk d + uptoBulkAll r
def uptoBulkEntries {H : Type} : List (Lit × DataW H) → Nat
  | [] => 0
  | x :: r => uptoBulkEntry x + uptoBulkEntries r
def uptoBulkEntry {H : Type} : Lit × DataW H → Nat
  | (.string bytes, d) => bytes.length + uptoBulk d + 1
  | (_, d) => uptoBulk d + 1
 end
def uptoSmall : (H : Type) → List (DataW H) → Bool := fun _ ds => decide (uptoBulkAll ds ≤ 1048576)
def OpenSpec.upto (s : _root_.Go.ChangeSpec) : _root_.Go.OpenSpec := { _root_.Go.OpenSpec.ofChange s with cond := some uptoSmall }

/-- 'workcelllaw.MeanApplies', WHERE WHAT IT READS IS OF BULK AT MOST 1048576: true; the input reads as it did. -/
def meanAppliesUptoRow : OpenClaim := { program := "ytfadmpnpgiceeaagreat", sum := "709857c67d67583d72ceb72dc49c862e94b0e3bf49693699e029f2c9ef94d671", func := "workcell/workcelllaw.MeanApplies", spec := "meanApplies", unfollowed := true, recurses := true, plainKeys := false, apart := false, narrowed := true }
def MeanAppliesUptoSaid : Prop := meanAppliesUptoRow.holds Tryz.pinned (OpenSpec.upto meanAppliesSpec)

/-- 'workcellkeep.MeanKeeps', WHERE WHAT IT READS IS OF BULK AT MOST 1048576: true; the input reads as it did. -/
def meanKeepsUptoRow : OpenClaim := { program := "ytfadmpnpgiceeaagreat", sum := "709857c67d67583d72ceb72dc49c862e94b0e3bf49693699e029f2c9ef94d671", func := "workcell/workcellkeep.MeanKeeps", spec := "meanKeeps", unfollowed := true, recurses := true, plainKeys := false, apart := false, narrowed := true }
def MeanKeepsUptoSaid : Prop := meanKeepsUptoRow.holds Tryz.pinned (OpenSpec.upto meanKeepsSpec)

/-- 'workcellkeep.MeanSteps', WHERE WHAT IT READS IS OF BULK AT MOST 1048576: true; the input reads as it did. -/
def meanStepsUptoRow : OpenClaim := { program := "ytfadmpnpgiceeaagreat", sum := "709857c67d67583d72ceb72dc49c862e94b0e3bf49693699e029f2c9ef94d671", func := "workcell/workcellkeep.MeanSteps", spec := "meanSteps", unfollowed := true, recurses := true, plainKeys := false, apart := false, narrowed := true }
def MeanStepsUptoSaid : Prop := meanStepsUptoRow.holds Tryz.pinned (OpenSpec.upto meanStepsSpec)

/-- 'workcellkeep.MeanFull', WHERE WHAT IT READS IS OF BULK AT MOST 1048576: true; the input reads as it did. -/
def meanFullUptoRow : OpenClaim := { program := "ytfadmpnpgiceeaagreat", sum := "709857c67d67583d72ceb72dc49c862e94b0e3bf49693699e029f2c9ef94d671", func := "workcell/workcellkeep.MeanFull", spec := "meanFull", unfollowed := true, recurses := true, plainKeys := false, apart := false, narrowed := true }
def MeanFullUptoSaid : Prop := meanFullUptoRow.holds Tryz.pinned (OpenSpec.upto meanFullSpec)

end Rows
end Go.Proofs.YtfadmpnpgiceeaaGreat
