/-
  No cell of these rows narrows 'for every input' (looked for: loops, veiled, ifaces, maps, wideKeys, modest, calm, conditions, laid).
  DERIVED. THE GIVEN ROWS OF THIS SEAT. 4 by the template 'for every input the law returns true; each argument reads behind the call as it read before'; 0 by the template 'total and deterministic' (their statements: YtjlbheeipchpkaaTotals.lean).
  GIVEN WITH THE SEED: the statements are not yours to turn. If you find one false, say at which input.
  Laid BY PROGRAM, IN A SANDBOX (cutbox-rows.mjs): the forced cells as the released guide's own fill.sh prints them over the translation 4aa6c93d5e636ca5… (all of the seat's roots in one cut). By AI agents, Wed Nov 11 2026. No macro, syntax, notation, axiom, sorry.
-/
import Derived.Test.YtjlbheeipchpkaaChecked
import GoSem.Claim
import GoSem.ClaimJoined
import GoSem.ClaimMapViews
import Derived.JoinedTies
import Derived.KernelRfl
namespace Go.Proofs.Ytjlbheeipchpkaa
/- THE CELL 'sum', in the pinned program and in every row, IS THE sha256 OF THE DUMP (.gsa) THAT YtjlbheeipchpkaaProg.lean LOADS. Nothing in Lean hashes anything: it is a label: what it is worth is what the hold of that sum in a sandbox is worth. -/
noncomputable def Try.pinned : Pinned := { name := "ytjlbheeipchpkaa", sum := "4aa6c93d5e636ca5f874932ce1e036cc6c56bcd78fc152daa615de49f176397c", checked := Try.checked }
namespace Rows
def none {H : Type} : Left H := { results := [], args := [] }

/-- 'workcelllaw.UnitSums': WHATEVER THE INPUT: true; the input reads as it did. -/
def unitSumsSpec : ChangeSpec := { name := "unitSums", fn := fun _ => fun
  | [d1, d2] => { results := [.lit (.bool true)], args := [d1, d2] }
  | _ => none }
def unitSumsRow : OpenClaim := { program := "ytjlbheeipchpkaa", sum := "4aa6c93d5e636ca5f874932ce1e036cc6c56bcd78fc152daa615de49f176397c", func := "workcell/workcelllaw.UnitSums", spec := "unitSums", apart := false }
def UnitSumsSaid : Prop := unitSumsRow.holds Try.pinned (OpenSpec.ofChange unitSumsSpec)

/-- ITS FALSE NEIGHBOUR: 'it returns false'. Refute it at one input. -/
def unitSumsWrong : ChangeSpec := { name := "unitSums", fn := fun _ => fun
  | [d1, d2] => { results := [.lit (.bool false)], args := [d1, d2] }
  | _ => none }
def UnitSumsWrongFalsely : Prop := unitSumsRow.holds Try.pinned (OpenSpec.ofChange unitSumsWrong)

/-- 'workcelllaw.UnitParts': WHATEVER THE INPUT: true; the input reads as it did. -/
def unitPartsSpec : ChangeSpec := { name := "unitParts", fn := fun _ => fun
  | [d1, d2] => { results := [.lit (.bool true)], args := [d1, d2] }
  | _ => none }
def unitPartsRow : OpenClaim := { program := "ytjlbheeipchpkaa", sum := "4aa6c93d5e636ca5f874932ce1e036cc6c56bcd78fc152daa615de49f176397c", func := "workcell/workcelllaw.UnitParts", spec := "unitParts", apart := false }
def UnitPartsSaid : Prop := unitPartsRow.holds Try.pinned (OpenSpec.ofChange unitPartsSpec)

/-- ITS FALSE NEIGHBOUR: 'it returns false'. Refute it at one input. -/
def unitPartsWrong : ChangeSpec := { name := "unitParts", fn := fun _ => fun
  | [d1, d2] => { results := [.lit (.bool false)], args := [d1, d2] }
  | _ => none }
def UnitPartsWrongFalsely : Prop := unitPartsRow.holds Try.pinned (OpenSpec.ofChange unitPartsWrong)

/-- 'workcellkeep.UnitShares': WHATEVER THE INPUT: true; the input reads as it did. -/
def unitSharesSpec : ChangeSpec := { name := "unitShares", fn := fun _ => fun
  | [d1, d2] => { results := [.lit (.bool true)], args := [d1, d2] }
  | _ => none }
def unitSharesRow : OpenClaim := { program := "ytjlbheeipchpkaa", sum := "4aa6c93d5e636ca5f874932ce1e036cc6c56bcd78fc152daa615de49f176397c", func := "workcell/workcellkeep.UnitShares", spec := "unitShares", apart := false }
def UnitSharesSaid : Prop := unitSharesRow.holds Try.pinned (OpenSpec.ofChange unitSharesSpec)

/-- ITS FALSE NEIGHBOUR: 'it returns false'. Refute it at one input. -/
def unitSharesWrong : ChangeSpec := { name := "unitShares", fn := fun _ => fun
  | [d1, d2] => { results := [.lit (.bool false)], args := [d1, d2] }
  | _ => none }
def UnitSharesWrongFalsely : Prop := unitSharesRow.holds Try.pinned (OpenSpec.ofChange unitSharesWrong)

/-- 'workcellkeep.UnitOvers': WHATEVER THE INPUT: true; the input reads as it did. -/
def unitOversSpec : ChangeSpec := { name := "unitOvers", fn := fun _ => fun
  | [d1, d2] => { results := [.lit (.bool true)], args := [d1, d2] }
  | _ => none }
def unitOversRow : OpenClaim := { program := "ytjlbheeipchpkaa", sum := "4aa6c93d5e636ca5f874932ce1e036cc6c56bcd78fc152daa615de49f176397c", func := "workcell/workcellkeep.UnitOvers", spec := "unitOvers", apart := false }
def UnitOversSaid : Prop := unitOversRow.holds Try.pinned (OpenSpec.ofChange unitOversSpec)

/-- ITS FALSE NEIGHBOUR: 'it returns false'. Refute it at one input. -/
def unitOversWrong : ChangeSpec := { name := "unitOvers", fn := fun _ => fun
  | [d1, d2] => { results := [.lit (.bool false)], args := [d1, d2] }
  | _ => none }
def UnitOversWrongFalsely : Prop := unitOversRow.holds Try.pinned (OpenSpec.ofChange unitOversWrong)

/- THE SECOND FORM. 'bulk': how many values and letters a reading holds, each counted each time it is reached (what is shared counts as often as it is met; a slice's spare places count too). A statement '..UptoSaid' is the law's where the arguments, and the package variables that the reading takes, are together of bulk at most 1048576: NARROWER than '..Said'. Prove '..Said' where nothing that the law and all that it calls make is longer than what came in: it says more and counts as full. Else prove '..UptoSaid'. A law counts once. -/
mutual
def uptoBulk {H : Type} : DataW H → Nat
  | .lit (.string bytes) => bytes.length + 1
  | .lit _ => 1
  | .nil => 1
  | .ptr d => uptoBulk d + 1
  | .slice elems spare => uptoBulkAll elems + uptoBulkAll spare + 1
  | .agg parts => uptoBulkAll parts + 1
  | .iface _ d => uptoBulk d + 1
  | .map entries => uptoBulkEntries entries + 1
  | .held _ => 1
def uptoBulkAll {H : Type} : List (DataW H) → Nat
  | [] => 0
  | d :: r => uptoBulk d + uptoBulkAll r
def uptoBulkEntries {H : Type} : List (Lit × DataW H) → Nat
  | [] => 0
  | x :: r => uptoBulkEntry x + uptoBulkEntries r
def uptoBulkEntry {H : Type} : Lit × DataW H → Nat
  | (.string bytes, d) => bytes.length + uptoBulk d + 1
  | (_, d) => uptoBulk d + 1
 end
def uptoSmall : (H : Type) → List (DataW H) → Bool := fun _ ds => decide (uptoBulkAll ds ≤ 1048576)
def OpenSpec.upto (s : _root_.Go.ChangeSpec) : _root_.Go.OpenSpec := { _root_.Go.OpenSpec.ofChange s with cond := some uptoSmall }

/-- 'workcelllaw.UnitSums', WHERE WHAT IT READS IS OF BULK AT MOST 1048576: true; the input reads as it did. -/
def unitSumsUptoRow : OpenClaim := { program := "ytjlbheeipchpkaa", sum := "4aa6c93d5e636ca5f874932ce1e036cc6c56bcd78fc152daa615de49f176397c", func := "workcell/workcelllaw.UnitSums", spec := "unitSums", apart := false, narrowed := true }
def UnitSumsUptoSaid : Prop := unitSumsUptoRow.holds Try.pinned (OpenSpec.upto unitSumsSpec)

/-- 'workcelllaw.UnitParts', WHERE WHAT IT READS IS OF BULK AT MOST 1048576: true; the input reads as it did. -/
def unitPartsUptoRow : OpenClaim := { program := "ytjlbheeipchpkaa", sum := "4aa6c93d5e636ca5f874932ce1e036cc6c56bcd78fc152daa615de49f176397c", func := "workcell/workcelllaw.UnitParts", spec := "unitParts", apart := false, narrowed := true }
def UnitPartsUptoSaid : Prop := unitPartsUptoRow.holds Try.pinned (OpenSpec.upto unitPartsSpec)

/-- 'workcellkeep.UnitShares', WHERE WHAT IT READS IS OF BULK AT MOST 1048576: true; the input reads as it did. -/
def unitSharesUptoRow : OpenClaim := { program := "ytjlbheeipchpkaa", sum := "4aa6c93d5e636ca5f874932ce1e036cc6c56bcd78fc152daa615de49f176397c", func := "workcell/workcellkeep.UnitShares", spec := "unitShares", apart := false, narrowed := true }
def UnitSharesUptoSaid : Prop := unitSharesUptoRow.holds Try.pinned (OpenSpec.upto unitSharesSpec)

/-- 'workcellkeep.UnitOvers', WHERE WHAT IT READS IS OF BULK AT MOST 1048576: true; the input reads as it did. -/
def unitOversUptoRow : OpenClaim := { program := "ytjlbheeipchpkaa", sum := "4aa6c93d5e636ca5f874932ce1e036cc6c56bcd78fc152daa615de49f176397c", func := "workcell/workcellkeep.UnitOvers", spec := "unitOvers", apart := false, narrowed := true }
def UnitOversUptoSaid : Prop := unitOversUptoRow.holds Try.pinned (OpenSpec.upto unitOversSpec)

end Rows
end Go.Proofs.Ytjlbheeipchpkaa
