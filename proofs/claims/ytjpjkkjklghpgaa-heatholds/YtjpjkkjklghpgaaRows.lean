/-
  No cell of these rows narrows 'for every input' (looked for: loops, veiled, ifaces, maps, wideKeys, modest, calm, conditions, laid).
  DERIVED. THE GIVEN ROWS OF THIS SEAT. 5 by the template 'for every input the law returns true; each argument reads behind the call as it read before'; 0 by the template 'total and deterministic' (their statements: YtjpjkkjklghpgaaTotals.lean).
  GIVEN WITH THE SEED: the statements are not yours to turn. If you find one false, say at which input.
  Laid BY PROGRAM, IN A SANDBOX (cutbox-rows.mjs): the forced cells as the released guide's own fill.sh prints them over the translation cf459e8cf79cf8b3… (all of the seat's roots in one cut). By AI agents, Wed Nov 11 2026. No macro, syntax, notation, axiom, sorry.
-/
import Derived.Test.YtjpjkkjklghpgaaChecked
import GoSem.Claim
import GoSem.ClaimJoined
import GoSem.ClaimMapViews
import Derived.JoinedTies
import Derived.KernelRfl
namespace Go.Proofs.Ytjpjkkjklghpgaa
/- THE CELL 'sum', in the pinned program and in every row, IS THE sha256 OF THE DUMP (.gsa) THAT YtjpjkkjklghpgaaProg.lean LOADS. Nothing in Lean hashes anything: it is a label: what it is worth is what the hold of that sum in a sandbox is worth. -/
noncomputable def Try.pinned : Pinned := { name := "ytjpjkkjklghpgaa", sum := "cf459e8cf79cf8b3956b19e27101ad8975f1db066ac024fa13a101ae596c17e5", checked := Try.checked }
namespace Rows
def none {H : Type} : Left H := { results := [], args := [] }

/-- 'workcelllaw.HeatTicks': WHATEVER THE INPUT: true; the input reads as it did. -/
def heatTicksSpec : ChangeSpec := { name := "heatTicks", fn := fun _ => fun
  | [d1, d2, d3, d4, d5, d6] => { results := [.lit (.bool true)], args := [d1, d2, d3, d4, d5, d6] }
  | _ => none }
def heatTicksRow : OpenClaim := { program := "ytjpjkkjklghpgaa", sum := "cf459e8cf79cf8b3956b19e27101ad8975f1db066ac024fa13a101ae596c17e5", func := "workcell/workcelllaw.HeatTicks", spec := "heatTicks", unfollowed := true, recurses := true, apart := false }
def HeatTicksSaid : Prop := heatTicksRow.holds Try.pinned (OpenSpec.ofChange heatTicksSpec)

/-- ITS FALSE NEIGHBOUR: 'it returns false'. Refute it at one input. -/
def heatTicksWrong : ChangeSpec := { name := "heatTicks", fn := fun _ => fun
  | [d1, d2, d3, d4, d5, d6] => { results := [.lit (.bool false)], args := [d1, d2, d3, d4, d5, d6] }
  | _ => none }
def HeatTicksWrongFalsely : Prop := heatTicksRow.holds Try.pinned (OpenSpec.ofChange heatTicksWrong)

/-- 'workcelllaw.HeatHolds': WHATEVER THE INPUT: true; the input reads as it did. -/
def heatHoldsSpec : ChangeSpec := { name := "heatHolds", fn := fun _ => fun
  | [d1, d2, d3, d4, d5, d6] => { results := [.lit (.bool true)], args := [d1, d2, d3, d4, d5, d6] }
  | _ => none }
def heatHoldsRow : OpenClaim := { program := "ytjpjkkjklghpgaa", sum := "cf459e8cf79cf8b3956b19e27101ad8975f1db066ac024fa13a101ae596c17e5", func := "workcell/workcelllaw.HeatHolds", spec := "heatHolds", unfollowed := true, recurses := true, apart := false }
def HeatHoldsSaid : Prop := heatHoldsRow.holds Try.pinned (OpenSpec.ofChange heatHoldsSpec)

/-- ITS FALSE NEIGHBOUR: 'it returns false'. Refute it at one input. -/
def heatHoldsWrong : ChangeSpec := { name := "heatHolds", fn := fun _ => fun
  | [d1, d2, d3, d4, d5, d6] => { results := [.lit (.bool false)], args := [d1, d2, d3, d4, d5, d6] }
  | _ => none }
def HeatHoldsWrongFalsely : Prop := heatHoldsRow.holds Try.pinned (OpenSpec.ofChange heatHoldsWrong)

/-- 'workcellkeep.HeatRises': WHATEVER THE INPUT: true; the input reads as it did. -/
def heatRisesSpec : ChangeSpec := { name := "heatRises", fn := fun _ => fun
  | [d1, d2, d3, d4] => { results := [.lit (.bool true)], args := [d1, d2, d3, d4] }
  | _ => none }
def heatRisesRow : OpenClaim := { program := "ytjpjkkjklghpgaa", sum := "cf459e8cf79cf8b3956b19e27101ad8975f1db066ac024fa13a101ae596c17e5", func := "workcell/workcellkeep.HeatRises", spec := "heatRises", unfollowed := true, recurses := true, apart := false }
def HeatRisesSaid : Prop := heatRisesRow.holds Try.pinned (OpenSpec.ofChange heatRisesSpec)

/-- ITS FALSE NEIGHBOUR: 'it returns false'. Refute it at one input. -/
def heatRisesWrong : ChangeSpec := { name := "heatRises", fn := fun _ => fun
  | [d1, d2, d3, d4] => { results := [.lit (.bool false)], args := [d1, d2, d3, d4] }
  | _ => none }
def HeatRisesWrongFalsely : Prop := heatRisesRow.holds Try.pinned (OpenSpec.ofChange heatRisesWrong)

/-- 'workcellkeep.HeatHeld': WHATEVER THE INPUT: true; the input reads as it did. -/
def heatHeldSpec : ChangeSpec := { name := "heatHeld", fn := fun _ => fun
  | [d1, d2, d3, d4, d5] => { results := [.lit (.bool true)], args := [d1, d2, d3, d4, d5] }
  | _ => none }
def heatHeldRow : OpenClaim := { program := "ytjpjkkjklghpgaa", sum := "cf459e8cf79cf8b3956b19e27101ad8975f1db066ac024fa13a101ae596c17e5", func := "workcell/workcellkeep.HeatHeld", spec := "heatHeld", unfollowed := true, recurses := true, apart := false }
def HeatHeldSaid : Prop := heatHeldRow.holds Try.pinned (OpenSpec.ofChange heatHeldSpec)

/-- ITS FALSE NEIGHBOUR: 'it returns false'. Refute it at one input. -/
def heatHeldWrong : ChangeSpec := { name := "heatHeld", fn := fun _ => fun
  | [d1, d2, d3, d4, d5] => { results := [.lit (.bool false)], args := [d1, d2, d3, d4, d5] }
  | _ => none }
def HeatHeldWrongFalsely : Prop := heatHeldRow.holds Try.pinned (OpenSpec.ofChange heatHeldWrong)

/-- 'workcellkeep.HeatLonger': WHATEVER THE INPUT: true; the input reads as it did. -/
def heatLongerSpec : ChangeSpec := { name := "heatLonger", fn := fun _ => fun
  | [d1, d2, d3, d4, d5] => { results := [.lit (.bool true)], args := [d1, d2, d3, d4, d5] }
  | _ => none }
def heatLongerRow : OpenClaim := { program := "ytjpjkkjklghpgaa", sum := "cf459e8cf79cf8b3956b19e27101ad8975f1db066ac024fa13a101ae596c17e5", func := "workcell/workcellkeep.HeatLonger", spec := "heatLonger", unfollowed := true, recurses := true, apart := false }
def HeatLongerSaid : Prop := heatLongerRow.holds Try.pinned (OpenSpec.ofChange heatLongerSpec)

/-- ITS FALSE NEIGHBOUR: 'it returns false'. Refute it at one input. -/
def heatLongerWrong : ChangeSpec := { name := "heatLonger", fn := fun _ => fun
  | [d1, d2, d3, d4, d5] => { results := [.lit (.bool false)], args := [d1, d2, d3, d4, d5] }
  | _ => none }
def HeatLongerWrongFalsely : Prop := heatLongerRow.holds Try.pinned (OpenSpec.ofChange heatLongerWrong)

/- THE SECOND FORM. 'bulk': how many values and letters a reading holds, each counted each time it is reached (what is shared counts as often as it is met; a slice's spare places count too). A statement '..UptoSaid' is the law's where the arguments, and the package variables that the reading takes, are together of bulk at most 1048576: NARROWER than '..Said'. Prove '..Said' where nothing that the law and all that it calls make is longer than what came in: it says more and counts as full. Else prove '..UptoSaid'. A law counts once. -/
mutual
def uptoBulk {H : Type} : DataW H → Nat
  | .lit (.string bytes) => bytes.length + 1
  | .lit _ => 1
  | .nil => 1
  | .ptr d => uptoBulk d + 1
  | .slice elems spare => uptoBulkAll elems + uptoBulkAll spare + 1
  | .agg parts => uptoBulkAll parts + 1
  | .iface _ d => uptoBulk d + 1
  | .map entries => uptoBulkEntries entries + 1
  | .held _ => 1
def uptoBulkAll {H : Type} : List (DataW H) → Nat
  | [] => 0
  | d :: r => uptoBulk d + uptoBulkAll r
def uptoBulkEntries {H : Type} : List (Lit × DataW H) → Nat
  | [] => 0
  | x :: r => uptoBulkEntry x + uptoBulkEntries r
def uptoBulkEntry {H : Type} : Lit × DataW H → Nat
  | (.string bytes, d) => bytes.length + uptoBulk d + 1
  | (_, d) => uptoBulk d + 1
 end
def uptoSmall : (H : Type) → List (DataW H) → Bool := fun _ ds => decide (uptoBulkAll ds ≤ 1048576)
def OpenSpec.upto (s : _root_.Go.ChangeSpec) : _root_.Go.OpenSpec := { _root_.Go.OpenSpec.ofChange s with cond := some uptoSmall }

/-- 'workcelllaw.HeatTicks', WHERE WHAT IT READS IS OF BULK AT MOST 1048576: true; the input reads as it did. -/
def heatTicksUptoRow : OpenClaim := { program := "ytjpjkkjklghpgaa", sum := "cf459e8cf79cf8b3956b19e27101ad8975f1db066ac024fa13a101ae596c17e5", func := "workcell/workcelllaw.HeatTicks", spec := "heatTicks", unfollowed := true, recurses := true, apart := false, narrowed := true }
def HeatTicksUptoSaid : Prop := heatTicksUptoRow.holds Try.pinned (OpenSpec.upto heatTicksSpec)

/-- 'workcelllaw.HeatHolds', WHERE WHAT IT READS IS OF BULK AT MOST 1048576: true; the input reads as it did. -/
def heatHoldsUptoRow : OpenClaim := { program := "ytjpjkkjklghpgaa", sum := "cf459e8cf79cf8b3956b19e27101ad8975f1db066ac024fa13a101ae596c17e5", func := "workcell/workcelllaw.HeatHolds", spec := "heatHolds", unfollowed := true, recurses := true, apart := false, narrowed := true }
def HeatHoldsUptoSaid : Prop := heatHoldsUptoRow.holds Try.pinned (OpenSpec.upto heatHoldsSpec)

/-- 'workcellkeep.HeatRises', WHERE WHAT IT READS IS OF BULK AT MOST 1048576: true; the input reads as it did. -/
def heatRisesUptoRow : OpenClaim := { program := "ytjpjkkjklghpgaa", sum := "cf459e8cf79cf8b3956b19e27101ad8975f1db066ac024fa13a101ae596c17e5", func := "workcell/workcellkeep.HeatRises", spec := "heatRises", unfollowed := true, recurses := true, apart := false, narrowed := true }
def HeatRisesUptoSaid : Prop := heatRisesUptoRow.holds Try.pinned (OpenSpec.upto heatRisesSpec)

/-- 'workcellkeep.HeatHeld', WHERE WHAT IT READS IS OF BULK AT MOST 1048576: true; the input reads as it did. -/
def heatHeldUptoRow : OpenClaim := { program := "ytjpjkkjklghpgaa", sum := "cf459e8cf79cf8b3956b19e27101ad8975f1db066ac024fa13a101ae596c17e5", func := "workcell/workcellkeep.HeatHeld", spec := "heatHeld", unfollowed := true, recurses := true, apart := false, narrowed := true }
def HeatHeldUptoSaid : Prop := heatHeldUptoRow.holds Try.pinned (OpenSpec.upto heatHeldSpec)

/-- 'workcellkeep.HeatLonger', WHERE WHAT IT READS IS OF BULK AT MOST 1048576: true; the input reads as it did. -/
def heatLongerUptoRow : OpenClaim := { program := "ytjpjkkjklghpgaa", sum := "cf459e8cf79cf8b3956b19e27101ad8975f1db066ac024fa13a101ae596c17e5", func := "workcell/workcellkeep.HeatLonger", spec := "heatLonger", unfollowed := true, recurses := true, apart := false, narrowed := true }
def HeatLongerUptoSaid : Prop := heatLongerUptoRow.holds Try.pinned (OpenSpec.upto heatLongerSpec)

end Rows
end Go.Proofs.Ytjpjkkjklghpgaa
